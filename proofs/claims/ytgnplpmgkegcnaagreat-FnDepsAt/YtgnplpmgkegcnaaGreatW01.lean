/- Texts. -/
import Derived.Below
import Derived.BigQuiet
import Derived.BigRegion
import Derived.ChangeOld
import Derived.Deep.AppendLies
import Derived.Deep.CutRange
import Derived.Deep.DeepCutAuto
import Derived.Deep.OwnRows
import Derived.Deep.QuietTactic
import Derived.Deep.RegionHeld
import Derived.Deep.RegionHeld3
import Derived.Deep.RegionWith
import Derived.Deep.Upon
import Derived.Handy
import Derived.Laws.Bits128
import Derived.Laws.CopyOwn
import Derived.Laws.IdiomStrings
import Derived.Lib.AppendStr
import Derived.MapKept
import Derived.Maps.OwnSet
import Derived.Maps.RangeWalk
import Derived.OpenShut
import Derived.ProofKit
import Derived.RegionTactic
import Derived.Shelf.LaysM
import Derived.ShutString
import Derived.WalkKit
import Derived.WalkLawsBesides
import Derived.WalkSpells
import Derived.Test.YtgnplpmgkegcnaaGreatRows
import Derived.Shelf.Strconv.Clone
import Derived.Test.YtgnplpmgkegcnaaGreatProg
set_option maxRecDepth 100000
set_option maxHeartbeats 12800000
/- Short names. -/
namespace Go
namespace World
abbrev z(w:World):Nat:=w.heap.size
abbrev q(w:World)(b o:Nat):Option Value:=w.cell? ⟨b,o,none⟩
abbrev s3(w:World)(b:Nat)(a0 a1 a2:Value):World:=((w.setCell ⟨b,0,none⟩ a0).setCell ⟨b,1,none⟩ a1).setCell ⟨b,2,none⟩ a2
abbrev s4(w:World)(b:Nat)(a0 a1 a2 a3:Value):World:=(((w.setCell ⟨b,0,none⟩ a0).setCell ⟨b,1,none⟩ a1).setCell ⟨b,2,none⟩ a2).setCell ⟨b,3,none⟩ a3
abbrev s5(w:World)(b:Nat)(a0 a1 a2 a3 a4:Value):World:=((((w.setCell ⟨b,0,none⟩ a0).setCell ⟨b,1,none⟩ a1).setCell ⟨b,2,none⟩ a2).setCell ⟨b,3,none⟩ a3).setCell ⟨b,4,none⟩ a4
abbrev s6(w:World)(b:Nat)(a0 a1 a2 a3 a4 a5:Value):World:=(((((w.setCell ⟨b,0,none⟩ a0).setCell ⟨b,1,none⟩ a1).setCell ⟨b,2,none⟩ a2).setCell ⟨b,3,none⟩ a3).setCell ⟨b,4,none⟩ a4).setCell ⟨b,5,none⟩ a5
abbrev s7(w:World)(b:Nat)(a0 a1 a2 a3 a4 a5 a6:Value):World:=((((((w.setCell ⟨b,0,none⟩ a0).setCell ⟨b,1,none⟩ a1).setCell ⟨b,2,none⟩ a2).setCell ⟨b,3,none⟩ a3).setCell ⟨b,4,none⟩ a4).setCell ⟨b,5,none⟩ a5).setCell ⟨b,6,none⟩ a6
abbrev s8(w:World)(b:Nat)(a0 a1 a2 a3 a4 a5 a6 a7:Value):World:=(((((((w.setCell ⟨b,0,none⟩ a0).setCell ⟨b,1,none⟩ a1).setCell ⟨b,2,none⟩ a2).setCell ⟨b,3,none⟩ a3).setCell ⟨b,4,none⟩ a4).setCell ⟨b,5,none⟩ a5).setCell ⟨b,6,none⟩ a6).setCell ⟨b,7,none⟩ a7
abbrev r4(w:World)(b:Nat)(a0 a1 a2 a3:Value):Prop:=w.cell? ⟨b,0,none⟩=some a0/\w.cell? ⟨b,1,none⟩=some a1/\w.cell? ⟨b,2,none⟩=some a2/\w.cell? ⟨b,3,none⟩=some a3
abbrev r5(w:World)(b:Nat)(a0 a1 a2 a3 a4:Value):Prop:=w.cell? ⟨b,0,none⟩=some a0/\w.cell? ⟨b,1,none⟩=some a1/\w.cell? ⟨b,2,none⟩=some a2/\w.cell? ⟨b,3,none⟩=some a3/\w.cell? ⟨b,4,none⟩=some a4
abbrev r7(w:World)(b:Nat)(a0 a1 a2 a3 a4 a5 a6:Value):Prop:=w.cell? ⟨b,0,none⟩=some a0/\w.cell? ⟨b,1,none⟩=some a1/\w.cell? ⟨b,2,none⟩=some a2/\w.cell? ⟨b,3,none⟩=some a3/\w.cell? ⟨b,4,none⟩=some a4/\w.cell? ⟨b,5,none⟩=some a5/\w.cell? ⟨b,6,none⟩=some a6
abbrev r8(w:World)(b:Nat)(a0 a1 a2 a3 a4 a5 a6 a7:Value):Prop:=w.cell? ⟨b,0,none⟩=some a0/\w.cell? ⟨b,1,none⟩=some a1/\w.cell? ⟨b,2,none⟩=some a2/\w.cell? ⟨b,3,none⟩=some a3/\w.cell? ⟨b,4,none⟩=some a4/\w.cell? ⟨b,5,none⟩=some a5/\w.cell? ⟨b,6,none⟩=some a6/\w.cell? ⟨b,7,none⟩=some a7
abbrev r11(w:World)(b:Nat)(a0 a1 a2 a3 a4 a5 a6 a7 a8 a9 a10:Value):Prop:=w.cell? ⟨b,0,none⟩=some a0/\w.cell? ⟨b,1,none⟩=some a1/\w.cell? ⟨b,2,none⟩=some a2/\w.cell? ⟨b,3,none⟩=some a3/\w.cell? ⟨b,4,none⟩=some a4/\w.cell? ⟨b,5,none⟩=some a5/\w.cell? ⟨b,6,none⟩=some a6/\w.cell? ⟨b,7,none⟩=some a7/\w.cell? ⟨b,8,none⟩=some a8/\w.cell? ⟨b,9,none⟩=some a9/\w.cell? ⟨b,10,none⟩=some a10
abbrev n(w:World)(c:Array Value)(t:TypeId):World:=w.alloc (.cells c t)
end World
end Go
namespace Go.Proofs.YtgnplpmgkegcnaaGreat
open Go.RowKit
abbrev Wd:=World
abbrev nZ:Value:=.slice none 0 0
abbrev eT:Value:=.string ⟨#[]⟩
abbrev sL{α:Type}(a:Option Addr)(l:List α)(c:Nat):Value:=.slice a l.length c
abbrev Va:=Value
abbrev OA:=Option Addr
abbrev BA:=ByteArray
abbrev Bw(w v:World):Prop:=Below w.heap.size w v
abbrev aA(b o:Nat):Option Addr:=some ⟨b,o,none⟩
abbrev nI(n:Int):Value:=.int .i64 n
theorem hs4{w:World}{b k:Nat}{a0 a1 a2 a3:Value}(h:k≠b):((((w.setCell ⟨b,0,none⟩ a0).setCell ⟨b,1,none⟩ a1).setCell ⟨b,2,none⟩ a2).setCell ⟨b,3,none⟩ a3).heap[k]?=w.heap[k]?:=(((heap_setCell_other _ ⟨b,3,none⟩ k _ h).trans (heap_setCell_other _ ⟨b,2,none⟩ k _ h)).trans (heap_setCell_other _ ⟨b,1,none⟩ k _ h)).trans (heap_setCell_other _ ⟨b,0,none⟩ k _ h)
theorem hs7{w:World}{b k:Nat}{a0 a1 a2 a3 a4 a5 a6:Value}(h:k≠b):(((((((w.setCell ⟨b,0,none⟩ a0).setCell ⟨b,1,none⟩ a1).setCell ⟨b,2,none⟩ a2).setCell ⟨b,3,none⟩ a3).setCell ⟨b,4,none⟩ a4).setCell ⟨b,5,none⟩ a5).setCell ⟨b,6,none⟩ a6).heap[k]?=w.heap[k]?:=((((((heap_setCell_other _ ⟨b,6,none⟩ k _ h).trans (heap_setCell_other _ ⟨b,5,none⟩ k _ h)).trans (heap_setCell_other _ ⟨b,4,none⟩ k _ h)).trans (heap_setCell_other _ ⟨b,3,none⟩ k _ h)).trans (heap_setCell_other _ ⟨b,2,none⟩ k _ h)).trans (heap_setCell_other _ ⟨b,1,none⟩ k _ h)).trans (heap_setCell_other _ ⟨b,0,none⟩ k _ h)
theorem oM{p:Prop}(h:p:=by
 omega):p:=h
theorem dC{p:Prop}(h:p:=by
 decide):p:=h
theorem sI{p:Prop}(h:p:=by
 simp):p:=h
theorem kL{p:Prop}(h:p:=by
 kernel_rfl):p:=h
theorem sO{p:Prop}(h:p:=by
 simp;omega):p:=h
theorem sR0{p:Prop}(h:p:=by
 simp[results,go_sem]):p:=h
theorem sR7{p:Prop}(h:p:=by
 simp[results,go_sem,r0,r1,r2,r3,r4,r5,r6]):p:=h
theorem sR8{p:Prop}(h:p:=by
 simp[results,go_sem,r0,r1,r2,r3,r4,r5,r6,r7]):p:=h
theorem sR5{p:Prop}(h:p:=by
 simp[results,go_sem,r0,r1,r2,r3,r4]):p:=h
theorem sR4{p:Prop}(h:p:=by
 simp[results,go_sem,r0,r1,r2,r3]):p:=h
theorem sQ3{p:Prop}(h:p:=by
 simp[results,go_sem,q0,q1,q2]):p:=h
theorem oA{p:Prop}(h:p:=by
 show k≠w.heap.size+1;omega):p:=h
theorem oB{p:Prop}(h:p:=by
 show k≠w.heap.size;omega):p:=h
theorem oC{p:Prop}(h:p:=by
 show w.heap.size<=w.heap.size+1+1;omega):p:=h
theorem oD{p:Prop}(h:p:=by
 show w.heap.size<=b;omega):p:=h
theorem oE{p:Prop}(h:p:=by
 show w.heap.size<=w.heap.size+1;omega):p:=h
theorem oF{p:Prop}(h:p:=by
 have:w.heap.size+1+1<=k/\k<b2:=hk;omega):p:=h
theorem oG{p:Prop}(h:p:=by
 show w.heap.size<=g;omega):p:=h
theorem vR{p:Prop}(h:p:=by
 rw[hv];rfl):p:=h
theorem uH{p:Prop}(h:p:=by
 simpa using hk):p:=h
theorem uI{p:Prop}(h:p:=by
 simpa using h):p:=h
theorem gK{p:Prop}(h:p:=by
 go_num):p:=h
theorem gW_{p:Prop}(h:p:=by
 go_grown):p:=h
abbrev vJ:=@Value.slice.injEq
abbrev bF:=@Below.refl
abbrev bY:=@bodyPost_ret
abbrev aI:=@And.intro
abbrev gM_:=@List.getElem_mem
abbrev lS:=@List.length_set
abbrev zL:=@Nat.zero_le
abbrev oJ:=@Option.some.injEq
abbrev lT:=@Nat.le_trans
abbrev aJ:=@Addr.mk.injEq
abbrev hO_:=@heap_setCell_other
abbrev nN:=@List.not_mem_nil
abbrev sA:=@List.setIfInBounds_toArray
abbrev gS_:=@List.getElem_set_self
abbrev lL:=@Nat.lt_of_lt_of_le
abbrev mS:=@List.mem_or_eq_of_mem_set
abbrev mC:=@List.mem_cons_of_mem
abbrev cS:=@List.set_cons_succ
abbrev mN:=@List.mem_cons
abbrev rC:=@AllReadyH.cons
abbrev lA:=@List.length_append
abbrev gN:=@List.getElem_set_ne
abbrev bA_:=@ByteArray.size_append
abbrev bD:=@below_drewN
abbrev cZ:=@List.set_cons_zero
abbrev wA_:=@World.size_alloc
abbrev rN:=@AllReadyH.nil
abbrev dF:=@decide_eq_false
abbrev aE:=@Bool.and_eq_true
abbrev lM:=@List.length_map
abbrev wH:=@wpAnyH_ready
abbrev tG:=@List.take_append_getElem
abbrev lC:=@List.length_cons
abbrev gE:=@List.getElem?_eq_getElem
abbrev tS:=@List.take_succ_eq_append_getElem
abbrev wS:=@wpList_step
abbrev zA_:=@Nat.zero_add
abbrev dT:=@decide_eq_true
abbrev tL:=@List.take_of_length_le
abbrev gC:=@List.getElem_cons_succ
abbrev dG:=@List.drop_eq_getElem_cons
abbrev gD_:=@List.getD_eq_getElem?_getD
abbrev lK:=@List.length_take
abbrev gA:=@World.grownBy_alloc
abbrev gL_:=@List.getElem_append_left
abbrev gR_:=@List.getElem_append_right
abbrev lR:=@List.length_replicate
abbrev rP:=@wp_region_noPanic
/- Closing blocks by name. -/
theorem cQ0{p:Prop}(h:p:=by
 have HB2:Hid (Bw W0 W2/\AtC W2 w1.1.size 33 (M7 m1 s1 t1 s2 t2 s3 t3 s4 t4 s5 t5 s6 t6)/\N7 W2 (fun k=>W0.1.size<=k) m1 s1 t1 s2 t2 s3 t3 s4 t4 s5 t5 s6 t6/\Sh Z0 m1/\w.1.size+1+1<W0.1.size):=by
  rw[←hW2];exact⟨B1.alloc B1.size _,AtC.new w1 33 _,O1.alloc _,S1,(HC.o W0 HB0.o).2.2.2.2⟩
 clear O1 S1 B1 x0 x1 x2 x3 x4 x5 x6 e0 e1 e2 e3 e4;obtain⟨y0,y1,y2,y3,y4,y5,y6⟩:=AtC.sev HB2.o.2.1;obtain⟨r0,r1,r2,r3,r4,r5,r6⟩:=AtC.sev ((HC.o W2 HB2.o.1).2.2.1);obtain⟨v0,v1,v2,v3,v4,v5,v6⟩:=(HC.o W2 HB2.o.1).2.2.1.f7;go_wp2;refine bY (v:=.tuple #[.agg (M7 m1 s1 t1 s2 t2 s3 t3 s4 t4 s5 t5 s6 t6),nI cc,.bool true]) (by simp[results,go_sem,r0,r1,r2,r3,r4,r5,r6]) rfl ⟨⟨_,_,_,_,_,_,_,_,_,_,_,_,m1,_,_,rfl,fun _=>⟨(HB2.o.2.2.1.of_heap fun k hk _=>zaa _ _ _ _ _ _ _ _ _ k (by have:W0.1.size<=k:=hk;have:=HB2.o.2.2.2.2;omega)).mono (fun k hk=>by have:W0.1.size<=k:=hk;have:=HB2.o.2.2.2.2;omega),HB2.o.2.2.2.1⟩⟩,zab (HC.o W2 HB2.o.1).2.2.2.1 oM _ _ _ _ _ _ _⟩):p:=h
theorem cQ1{p:Prop}(h:p:=by
 obtain⟨y0,y1,y2,y3,y4,y5,y6⟩:=AtC.sev ((HC.o w4 HB4.o).2.2.1);obtain⟨r0,r1,r2,r3,r4,r5,r6⟩:=AtC.sev ((HC.o w4 HB4.o).2.1);obtain⟨v0,v1,v2,v3,v4,v5,v6⟩:=(HC.o w4 HB4.o).2.1.f7;have HFF:=hJ (HC.o w4 HB4.o);go_wp2;refine bY (v:=.tuple #[.agg (M7 m s1 t1 s2 t2 s3 t3 s4 t4 s5 t5 s6 t6),nI 6]) (by simp[results,go_sem,r0,r1,r2,r3,r4,r5,r6]) rfl ⟨⟨_,_,_,_,_,_,m,_,rfl,(HFF.o.2.2.2.1.of_heap fun k hk _=>zaa _ _ _ _ _ _ _ _ _ k (by have:w.1.size+1+1<=k/\k<b2:=hk;omega)).mono (fun k hk=>by have:w.1.size+1+1<=k/\k<b2:=hk;omega),HM.o⟩,zab HFF.o.2.2.2.2.1 oM _ _ _ _ _ _ _⟩):p:=h
theorem cQ2{p:Prop}(h:p:=by
 obtain⟨y0,y1,y2,y3,y4,y5,y6⟩:=AtC.sev ((HC.o w5 HB5.o).2.2.1);obtain⟨r0,r1,r2,r3,r4,r5,r6⟩:=AtC.sev ((HC.o w5 HB5.o).2.1);obtain⟨v0,v1,v2,v3,v4,v5,v6⟩:=(HC.o w5 HB5.o).2.1.f7;have HFF:=hJ (HC.o w5 HB5.o);go_wp2;refine bY (v:=.tuple #[.agg (M7 m s1 t1 s2 t2 s3 t3 s4 t4 s5 t5 s6 t6),nI 6]) (by simp[results,go_sem,r0,r1,r2,r3,r4,r5,r6]) rfl ⟨⟨_,_,_,_,_,_,m,_,rfl,(HFF.o.2.2.2.1.of_heap fun k hk _=>zaa _ _ _ _ _ _ _ _ _ k (by have:w.1.size+1+1<=k/\k<b2:=hk;omega)).mono (fun k hk=>by have:w.1.size+1+1<=k/\k<b2:=hk;omega),HM.o⟩,zab HFF.o.2.2.2.2.1 oM _ _ _ _ _ _ _⟩):p:=h
theorem cQ3{p:Prop}(h:p:=by
 obtain⟨y0,y1,y2,y3,y4,y5,y6⟩:=AtC.sev ((HC.o w7 HB7.o).2.2.1);obtain⟨r0,r1,r2,r3,r4,r5,r6⟩:=AtC.sev ((HC.o w7 HB7.o).2.1);obtain⟨v0,v1,v2,v3,v4,v5,v6⟩:=(HC.o w7 HB7.o).2.1.f7;have HFF:=hJ (HC.o w7 HB7.o);go_wp2;refine bY (v:=.tuple #[.agg (M7 m s1 t1 s2 t2 s3 t3 s4 t4 s5 t5 s6 t6),nI 5]) (by simp[results,go_sem,r0,r1,r2,r3,r4,r5,r6]) rfl ⟨⟨_,_,_,_,_,_,m,_,rfl,(HFF.o.2.2.2.1.of_heap fun k hk _=>zaa _ _ _ _ _ _ _ _ _ k (by have:w.1.size+1+1<=k/\k<b2:=hk;omega)).mono (fun k hk=>by have:w.1.size+1+1<=k/\k<b2:=hk;omega),HM.o⟩,zab HFF.o.2.2.2.2.1 oM _ _ _ _ _ _ _⟩):p:=h
theorem cQ4{p:Prop}(h:p:=by
 have k1:=(AtC.new ((w.alloc (.cells (M7 m a1 c1 a2 c2 a3 c3 a4 c4 a5 c5 a6 c6) 33)).alloc (.cells (K7 id kd io pt bk sl nm bt ot af pa bl.length pc) 42)) 33 noM).over b2;have k2:=((AtC.new (w.alloc (.cells (M7 m a1 c1 a2 c2 a3 c3 a4 c4 a5 c5 a6 c6) 33)) 42 (K7 id kd io pt bk sl nm bt ot af pa bl.length pc)).alloc (.cells noM 33)).over b2;have sz:=b2.size;simp at k1 k2 sz;exact⟨(((AtC.new w 33 _).alloc _).alloc _).over b2,k2,k1,((((bF _ w).alloc nR _).alloc sI _).alloc sO _).trans (b2.mono sO),sz⟩):p:=h
theorem cQ5{p:Prop}(h:p:=by
 have hl:=h.len;have hsz:=hb.size;have hlt:∀(i:Nat)(hi:i<ts.length)(k:Nat),(K.p ts[i]).ownBlock=some k->k<w.1.size:=fun i hi k hk=>K.lt (h.inn i hi oM) k hk;have hlt':∀k,(K.p t').ownBlock=some k->k<w1.1.size:=fun k hk=>K.lt hO k hk;have hvl:∀k,v.ownBlock=some k->k<w.1.size:=h.row.lt;have at_l:∀(i:Nat) (hi:i<(ts++[t']).length),(∃h':i<ts.length,(ts++[t'])[i]=ts[i])\/(i=ts.length/\(ts++[t'])[i]=t'):=fun i hi=>by
  by_cases e:i<ts.length
  ·exact .inl ⟨e,gL_ e⟩
  ·have e2:i=ts.length:=by simp at hi;omega
   refine .inr ⟨e2,?_⟩;subst e2;simp
 refine⟨by simp[hl],hr,fun i hi hi'=>?_,fun i j hi hj hne k e1 e2=>?_,fun i hi k e1 e2=>?_,fun k e=>?_,fun i hi k e=>?_⟩
 ·rcases at_l i hi with⟨h',e⟩| ⟨rfl,e⟩
  ·rw[e,gL_ oM];exact K.heap (h.inn i h' oM) fun k hk=>(hg.block k (by have:=hlt i h' k hk;omega) (fun e=>h.out i h' k hk e.symm)).trans (hb.block k (hlt i h' k hk))
  ·have e2:(xs++[x'])[ts.length]=x':=by simp[hl]
   rw[e,e2];exact K.heap hO fun k hk=>hg.block k (hlt' k hk) (fun e=>by have:=hvl k e.symm;have:=hn k hk;omega)
 ·rcases at_l i hi with⟨h1,q1⟩| ⟨q0,q1⟩<;>rcases at_l j hj with⟨h2,q2⟩| ⟨q3,q2⟩<;>rw[q1]at e1<;>rw[q2]at e2
  ·exact h.sep i j h1 h2 hne k e1 e2
  ·have:=hlt i h1 k e1;have:=hn k e2;omega
  ·have:=hlt j h2 k e2;have:=hn k e1;omega
  ·omega
 ·rcases at_l i hi with⟨h1,q1⟩| ⟨q0,q1⟩<;>rw[q1]at e1
  ·rcases hv k e2 with q|q
   ·exact h.out i h1 k e1 q
   ·have:=hlt i h1 k e1;omega
  ·rcases hv k e2 with q|q
   ·have:=hvl k q;have:=hn k e1;omega
   ·have:=hlt' k e1;omega
 ·rcases hv k e with q|q
  ·exact .inl ⟨h.so k q,hvl k q⟩
  ·exact .inr oM
 ·rcases at_l i hi with⟨h1,q1⟩| ⟨q0,q1⟩<;>rw[q1]at e
  ·exact .inl ⟨h.si i h1 k e,hlt i h1 k e⟩
  ·exact .inr (hn k e)):p:=h
theorem cQ6{p:Prop}(h:p:=by
 clear hK hK' hp hd;go_simp;exact HK.o _ _ bR rfl):p:=h
theorem cQ7{p:Prop}(h:p:=by
 go_simp;refine hK.out _ _ (trivial) (fun hHeld=>?_);clear hK K;try simp only[Act.put,sA,cZ,cS]
 refine wH (rs:=[9]) (by kernel_rfl) sI ?_;refine rC (o:={ dst:=some 52,op:=Op.call { callee:=Callee.builtin Builtin.append,args:=#[Operand.tmp 44,Operand.tmp 51],argTypes:=#[87,87] },type:=_,pos:=_,after:=_,guard:=none }) rfl (fun K hK=>?_) ?_
 ·refine zcn wz wz ?_ (.tmp 44) (.tmp 51) 87 ?_ (w.1.size+1+1) 90 Tryz.u87 _ 24 Tryz.i90 rfl dC _ ys ?_ HD2.o.own bR hsz2 t (x:Int) ?_ ?_ ?_
  ·rfl
  ·rfl
  ·rfl
  ·rfl
  ·omega
  intro v' w6 O6 B6 K6;obtain⟨a6,c6,rfl,-⟩:=O6.form;obtain⟨y0,y1,y2,yl⟩:=(HD2.o.var.below B6 oM).three;obtain⟨f0,f1,f2⟩:=(HD2.o.var.below B6 oM).frz;have HD6:=hJ (HD2.o.next O6 B6 HU.o);rw[show(ys++[(t,(x:Int))]).length=ys.length+1 by simp]at HD6;clear O6 B6 K6;refine hK.out _ _ (trivial) (fun hHeld=>?_);clear hK K;try simp only[Act.put,sA,cZ,cS]
  refine tk 10 hHeld ?_;simp only[Act.put];refine wH (rs:=[11]) (by kernel_rfl) sI ?_;refine rC (o:={ dst:=none,op:=Op.store 87 (Operand.tmp 53) (Operand.tmp 52),type:=_,pos:=_,after:=_,guard:=none }) rfl (fun K hK=>?_) ?_
  ·go_simp;refine hK.out _ _ (trivial) (fun hHeld=>?_);clear hK K;try simp only[Act.put,sA,cZ,cS]
   refine wpAnyH_done (by kernel_rfl) ?_ _;clear y0 y1 y2 f0 f1 f2 hHeld;go_wp2;go_roundw
   case rel=>exact⟨j+1,q,_,_,oM,gK,rfl,HD6.o⟩
   case measure=>simp[intOf];omega
  ·exact rN
 ·exact rN):p:=h
theorem cQ8{p:Prop}(h:p:=by
 obtain⟨j,rfl⟩:∃j:Nat,bk=(j:Int)+1:=⟨(bk-1).toNat,oM⟩
 have hwj:IntKind.i64.wrap (j:Int)=(j:Int):=wrap_small _ oM oM;have hjl:j<m.4.length:=by rw[HM.o.b];omega
 have hkk:=HM.o.bb _ (gM_ hjl);obtain⟨qa,qc,qe,-,qh⟩:=HH.o.d.k;simp only[vJ,true_and]at qe;obtain⟨rfl,rfl⟩:=qe;obtain⟨g2,o2,⟨t0,t1,t2⟩,rfl,hg2,r0,r1,-,e0,rr,-⟩:=qh j hjl;simp only at r0 r1 e0 rr;subst e0;obtain⟨dd,hdd⟩:∃dd,m.bs[j].1=dd:=⟨_,rfl⟩
 rw[hdd]at r0;obtain⟨sa,sc,rfl,-,sh⟩:=rr;have hkn:=hkk.n;rw[hdd]at hkn;have y0:wX.cell? ⟨g2,o2+j*3,none⟩=some (.bool dd):=(HBW.o.cell (p:=⟨g2,o2+j*3,none⟩) hg2).trans r0;have y1:=(HBW.o.cell (p:=⟨g2,o2+j*3+1,none⟩) hg2).trans r1;have j0:(0:Int)<=(j:Int):=oM
 have j1:(j:Int)<(m.4.length:Int):=oM
 have hbd:decide (0<(j:Int)+1)=true:=dT oM
 cases dd
 ·clear sh hkn hkk r0 r1 qh hdd;go_upto_region 20 with fail
  go_quiet(fail)
  go_wp2;go_ret
  first| exact⟨⟨_,rfl⟩,bD HBW.o _⟩| exact⟨⟨_,rfl⟩,bD (bD HBW.o _) _⟩
 ·have hsl:=hkn rfl;obtain⟨t,rfl⟩:∃t:Nat,sl=(t:Int):=⟨sl.toNat,oM⟩
  obtain⟨g3,o3,rfl,hg3,-,r3⟩:=sh t oM;obtain⟨pp,y3⟩:∃pp,wX.cell? ⟨g3,o3+t*2+1,none⟩=some (nI pp):=⟨_,(HBW.o.cell (p:=⟨g3,o3+t*2+1,none⟩) hg3).trans r3⟩
  rw[hsl]at y1;have t0:(0:Int)<=(t:Int):=oM
  have t1:(t:Int)<4:=oM
  clear sh hkn hkk r0 r1 r3 qh hdd hsl;go_upto_region 20 with fail
  go_quiet(fail)
  go_wp2;go_ret
  first| exact⟨⟨_,rfl⟩,bD HBW.o _⟩| exact⟨⟨_,rfl⟩,bD (bD HBW.o _) _⟩):p:=h
theorem cQ9{p:Prop}(h:p:=by
 have hl:=h.len;have hv:=h.row.lt;refine⟨by simp[hl],hr,fun i hi hi'=>?_,fun i i2 hi hi2 hne k e1 e2=>?_,fun i hi k e1 e2=>?_,fun k e=>hs k (h.so k e),fun i hi k e=>?_⟩
 ·simp only[lS]at hi hi';by_cases e:j=i
  ·subst e;simp only[gS_];exact hO
  ·simp only[gN e];exact K.heap (h.inn i hi hi') fun k hk=>hf k (K.lt (h.inn i hi hi') k hk) (fun e'=>h.out i hi k hk e') (fun e'=>h.sep i j hi hj (fun q=>e q.symm) k hk e')
 ·simp only[lS]at hi hi2;by_cases ei:j=i
  ·subst ei;simp only[gS_]at e1;rw[gN hne]at e2;rcases hn k e1 with q|q
   ·exact h.sep j i2 hi hi2 hne k q e2
   ·have:=K.lt (h.inn i2 hi2 oM) k e2;omega
  ·rw[gN ei]at e1;by_cases e2':j=i2
   ·subst e2';simp only[gS_]at e2;rcases hn k e2 with q|q
    ·exact h.sep i j hi hj hne k e1 q
    ·have:=K.lt (h.inn i hi oM) k e1;omega
   ·rw[gN e2']at e2;exact h.sep i i2 hi hi2 hne k e1 e2
 ·simp only[lS]at hi;by_cases ei:j=i
  ·subst ei;simp only[gS_]at e1;rcases hn k e1 with q|q
   ·exact h.out j hi k q e2
   ·have:=hv k e2;omega
  ·rw[gN ei]at e1;exact h.out i hi k e1 e2
 ·simp only[lS]at hi;by_cases ei:j=i
  ·subst ei;simp only[gS_]at e;exact hs2 k e
  ·rw[gN ei]at e;exact hs k (h.si i hi k e)):p:=h
theorem cQ10{p:Prop}(h:p:=by
 go_wp2_with fail
 refine CT.out.mono ?_;rintro e w8 ⟨z1,l1,y1,z2,l2,y2',z3,l3,y3,z4,l4,y4,z5,l5,y5,z6,l6,y6,rfl,B8⟩;obtain⟨W9,hW9⟩:∃W9,w8.alloc (.cells #[.slice z1 l1 y1,.slice z2 l2 y2',.slice z3 l3 y3,.slice z4 l4 y4,.slice z5 l5 y5,.slice z6 l6 y6,nI m.nx] 33)=W9:=⟨_,rfl⟩
 have HB9:Hid (Bw W2 W9):=by
  rw[←hW9];have b8:=HB7.o.trans (B8.mono HB7.o.size);exact b8.alloc b8.size _
 clear B8 CT;obtain⟨y0,y1,y2,y3,y4,y5,y6⟩:=AtC.sev ((HC.o W9 HB9.o).2.2.1);obtain⟨r0,r1,r2,r3,r4,r5,r6⟩:=AtC.sev ((HC.o W9 HB9.o).2.1);obtain⟨v0,v1,v2,v3,v4,v5,v6⟩:=(HC.o W9 HB9.o).2.1.f7;have HFF:=hJ (HC.o W9 HB9.o);go_wp2;refine bY (v:=.tuple #[.agg (M7 m s1 t1 s2 t2 s3 t3 s4 t4 s5 t5 s6 t6),nI 4]) (by simp[results,go_sem,r0,r1,r2,r3,r4,r5,r6]) rfl ⟨⟨_,_,_,_,_,_,m,_,rfl,(HFF.o.2.2.2.1.of_heap fun k hk _=>zaa _ _ _ _ _ _ _ _ _ k (by have:w.1.size+1+1<=k/\k<b2:=hk;omega)).mono (fun k hk=>by have:w.1.size+1+1<=k/\k<b2:=hk;omega),HM.o⟩,zab HFF.o.2.2.2.2.1 oM _ _ _ _ _ _ _⟩):p:=h
theorem cQ11{p:Prop}(h:p:=by
 rw[←hW2]at b;obtain⟨k0,kz,k1,k2⟩:=HB0.o;have b1:Bw w1 W:=((bF _ w1).alloc nR _).trans (b.mono sI);have bb:Bw W0 W:=B1.trans (b1.mono B1.size);have z1:=B1.size;have zb:=b.size;simp at zb;refine⟨k1.over bb,k2.over bb,?_,(O1.bound.below b1 nR).mono (fun k hk=>by have:W0.1.size<=k/\k<w1.1.size:=hk;omega),k0.trans (bb.mono oM),oM,oM⟩;rw[←hb2];exact(AtC.new w1 33 _).over b):p:=h
theorem cQ12{p:Prop}(h:p:=by
 rw[←hW0];refine⟨((bF _ w).alloc nR _).alloc sI _,sI,(AtC.new w 33 _).alloc _,?_⟩;have:=AtC.new (w.alloc (.cells (M7 m a1 c1 a2 c2 (aA g2 o2) c3 a4 c4 a5 c5 a6 c6) 33)) 33 E7;simpa using this):p:=h
theorem cQ13{p:Prop}(h:p:=by
 have hbd:decide (0<bk)=true:=dT hb;obtain⟨j,rfl⟩:∃j:Nat,io=(j:Int)+1:=⟨(io-1).toNat,oM⟩
 have hwj:IntKind.i64.wrap (j:Int)=(j:Int):=wrap_small _ oM oM;obtain⟨t,rfl⟩:∃t:Nat,pt=(t:Int):=⟨pt.toNat,oM⟩
 obtain⟨qa,qc,qe,-,qh⟩:=HH.o.d.i;simp only[vJ,true_and]at qe;obtain⟨rfl,rfl⟩:=qe;obtain⟨g2,o2,tt,rfl,hg2,-,-,r2,-,-,rr⟩:=qh j (by rw[HM.o.i];omega);have hpn:=(HM.o.ii _ (gM_ (show j<m.3.length by rw[HM.o.i];omega))).n;obtain⟨sa,sc,se,sh⟩:=rr;rw[hpn]at se;obtain⟨g3,o3,rfl,hg3,r3⟩:=sh t (by rw[hpn];omega);rw[se]at r2;have y2:wX.cell? ⟨g2,o2+j*3+2,none⟩=some (.slice (aA g3 o3) 2 sc):=(HBW.o.cell (p:=⟨g2,o2+j*3+2,none⟩) hg2).trans r2;obtain⟨pp,y3⟩:∃pp,wX.cell? ⟨g3,o3+t,none⟩=some (nI pp):=⟨_,(HBW.o.cell (p:=⟨g3,o3+t,none⟩) hg3).trans r3⟩
 have j0:(0:Int)<=(j:Int):=oM
 have j1:(j:Int)<(m.3.length:Int):=by rw[HM.o.i];omega
 have t0:(0:Int)<=(t:Int):=oM
 have t1:(t:Int)<2:=oM
 clear qh sh r2 r3 se hpn;go_upto_region 17 with fail
 go_quiet(fail)
 go_wp2;go_ret
 first| exact⟨⟨_,rfl⟩,bD HBW.o _⟩| exact⟨⟨_,rfl⟩,bD (bD HBW.o _) _⟩):p:=h
theorem cQ14{p:Prop}(h:p:=by
 obtain⟨g3,o3,⟨t0,t1,t2⟩,e3,hg,r0,r1,r2,e0,e1,rr⟩:=qh j hj;simp only[oJ,aJ,and_true]at e3;obtain⟨rfl,rfl⟩:=e3;simp only at e0 e1 rr r0 r1 r2;subst e0 e1;obtain⟨ta,tc,rfl⟩:=rr.form;exact⟨ta,tc,(hb.cell (p:=⟨g2,o2+j*3,none⟩) hg).trans r0,(hb.cell (p:=⟨g2,o2+j*3+1,none⟩) hg).trans r1,(hb.cell (p:=⟨g2,o2+j*3+2,none⟩) hg).trans r2,rr.below hb nR⟩):p:=h
theorem cQ15{p:Prop}(h:p:=by
 exact⟨(HS.o.2.2.2.2.1.of_heap fun k hk _=>hs7 (by show k≠(w.1.size+1+1);omega)).mono fun k hk=>oM,(((((((HS.o.2.2.2.2.2.1).setCell (by show w.1.size<=w.1.size+1+1;omega) _).setCell (by show w.1.size<=w.1.size+1+1;omega) _).setCell (by show w.1.size<=w.1.size+1+1;omega) _).setCell (by show w.1.size<=w.1.size+1+1;omega) _).setCell (by show w.1.size<=w.1.size+1+1;omega) _).setCell (by show w.1.size<=w.1.size+1+1;omega) _).setCell (by show w.1.size<=w.1.size+1+1;omega) _⟩):p:=h
theorem cQ16{p:Prop}(h:p:=by
 go_quiet(fail)
 go_wp2;go_ret
 first| exact⟨⟨_,rfl⟩,bD HBW.o _⟩| exact⟨⟨_,rfl⟩,bD (bD HBW.o _) _⟩):p:=h
theorem cQ17{p:Prop}(h:p:=by
 have HE:Hid (∀x1 x2 x3 x4 x5 x6 x7,MRn w.1.size (set7 w4 w.1.size x1 x2 x3 x4 x5 x6 x7) (sL a1 m.1 c1) (sL a2 m.2 c2) (sL a3 m.3 c3) (sL a4 m.4 c4) (sL a5 m.5 c5) (.slice a6 0 c6) m):=fun x1 x2 x3 x4 x5 x6 x7 w2' hw hs2 =>
  (HD4.o.o.of_heap (w':=w2') fun k hk hl=>(hw k (by have:=hk.1;omega) (by rw[zbi];exact hl)).trans (zba _ _ _ _ _ _ _ _ _ k (by have:=hk.1;omega))).mr
 have HA:=hJ (aI HD4.o.res (aI HD4.o.x HD4.o.dr));clear HD4;obtain⟨q0,q1,q2,q3,q4,q5,q6,z0,z1,z2,z3,z4,z5,z6,m0⟩:=cs7 HA.o.1;obtain⟨s0,s1,s2,s3,s4,s5,s6,r0,r1,r2,r3,r4,r5,r6,r9⟩:=cs7 HA.o.2.1;have HDR:=hJ (fun x1 x2 x3 x4 x5 x6 x7=>zbs HA.o.2.2 hcw nR x1 x2 x3 x4 x5 x6 x7);clear HA;go_wp2;exact bY (v:=.agg #[sL a1 m.1 c1,sL a2 m.2 c2,sL a3 m.3 c3,sL a4 m.4 c4,sL a5 m.5 c5,.slice a6 0 c6,nI m.nx]) (by simp[results,go_sem,q0,q1,q2,q3,q4,q5,q6]) rfl ⟨MemX.mk (m:=m) (HE.o _ _ _ _ _ _ _) HB.o HID.o,HDR.o _ _ _ _ _ _ _⟩):p:=h
theorem cQ18{p:Prop}(h:p:=by
 by_cases hz:0<fl.length
 rotate_left
 ·have hz1:¬(0:Int)<(fl.length:Int):=oM
  go_wp2_with fail
  go_meet
  exact⟨rfl,⟨#[47,97]⟩,by show(2:Nat)<=L+3;omega,HX3.o⟩
 have hz1:(0:Int)<(fl.length:Int):=oM
 obtain⟨gd,cd,ed,-,-⟩:=zc0 HX3.o.f 0 hz;simp only[vJ,true_and]at ed;obtain⟨rfl,rfl⟩:=ed;go_wp2_with fail
 refine(zah w0 W3 c a len cap fl.length HO.o hlen HX3.o.cur hz oM).mono ?_;rintro e w13 ⟨x,hx,rfl,hd13⟩;have HX13:=hJ (HX3.o.drew hd13);obtain⟨gd',cd',e1',ks,-⟩:=zc0 HX13.o.f x hx;simp only[vJ,oJ,aJ,and_true,true_and]at e1';obtain⟨rfl,-⟩:=e1';have hsz:=HS.o.1 _ (gM_ hx);obtain⟨s,hs⟩:∃s,fl[x]=s:=⟨_,rfl⟩
 rw[hs]at ks hsz;have x0:(0:Int)<=(x:Int):=oM
 have x1:(x:Int)<(fl.length:Int):=oM
 have b1:=HX13.o.ev.cell 1;have b2:=HX13.o.ev.frozen 1;clear hd13 hs;go_wp2_with fail
 go_meet
 exact⟨rfl,s,oM,HX13.o.setE 1 (.string s)⟩):p:=h
theorem cQ19{p:Prop}(h:p:=by
 subst hiz;obtain⟨y0,y1,y2,y3,y4,y5,y6⟩:=AtC.sev ((HC.o w6 HB6.o).2.2.1);obtain⟨r0,r1,r2,r3,r4,r5,r6⟩:=AtC.sev ((HC.o w6 HB6.o).2.1);obtain⟨v0,v1,v2,v3,v4,v5,v6⟩:=(HC.o w6 HB6.o).2.1.f7;have HFF:=hJ (HC.o w6 HB6.o);go_wp2;refine bY (v:=.tuple #[.agg (M7 m s1 t1 s2 t2 s3 t3 s4 t4 s5 t5 s6 t6),nI 1]) (by simp[results,go_sem,r0,r1,r2,r3,r4,r5,r6]) rfl ⟨⟨_,_,_,_,_,_,m,_,rfl,(HFF.o.2.2.2.1.of_heap fun k hk _=>zaa _ _ _ _ _ _ _ _ _ k (by have:w.1.size+1+1<=k/\k<b2:=hk;omega)).mono (fun k hk=>by have:w.1.size+1+1<=k/\k<b2:=hk;omega),HM.o⟩,zab HFF.o.2.2.2.2.1 oM _ _ _ _ _ _ _⟩):p:=h
theorem cQ20{p:Prop}(h:p:=by
 obtain⟨y0,y1,y2,y3,y4,y5,y6⟩:=AtC.sev ((HC.o W9 HB9.o).2.2.1);obtain⟨r0,r1,r2,r3,r4,r5,r6⟩:=AtC.sev ((HC.o W9 HB9.o).2.1);obtain⟨v0,v1,v2,v3,v4,v5,v6⟩:=(HC.o W9 HB9.o).2.1.f7;have HFF:=hJ (HC.o W9 HB9.o);go_wp2;refine bY (v:=.tuple #[.agg (M7 m s1 t1 s2 t2 s3 t3 s4 t4 s5 t5 s6 t6),nI 4]) (by simp[results,go_sem,r0,r1,r2,r3,r4,r5,r6]) rfl ⟨⟨_,_,_,_,_,_,m,_,rfl,(HFF.o.2.2.2.1.of_heap fun k hk _=>zaa _ _ _ _ _ _ _ _ _ k (by have:w.1.size+1+1<=k/\k<b2:=hk;omega)).mono (fun k hk=>by have:w.1.size+1+1<=k/\k<b2:=hk;omega),HM.o⟩,zab HFF.o.2.2.2.2.1 oM _ _ _ _ _ _ _⟩):p:=h
theorem cQ21{p:Prop}(h:p:=by
 obtain⟨y0,y1,y2,y3,y4,y5,y6⟩:=AtC.sev ((HC.o w7 HB7.o).2.2.1);obtain⟨r0,r1,r2,r3,r4,r5,r6⟩:=AtC.sev ((HC.o w7 HB7.o).2.1);obtain⟨v0,v1,v2,v3,v4,v5,v6⟩:=(HC.o w7 HB7.o).2.1.f7;have HFF:=hJ (HC.o w7 HB7.o);go_wp2;refine bY (v:=.tuple #[.agg (M7 m s1 t1 s2 t2 s3 t3 s4 t4 s5 t5 s6 t6),nI 3]) (by simp[results,go_sem,r0,r1,r2,r3,r4,r5,r6]) rfl ⟨⟨_,_,_,_,_,_,m,_,rfl,(HFF.o.2.2.2.1.of_heap fun k hk _=>zaa _ _ _ _ _ _ _ _ _ k (by have:w.1.size+1+1<=k/\k<b2:=hk;omega)).mono (fun k hk=>by have:w.1.size+1+1<=k/\k<b2:=hk;omega),HM.o⟩,zab HFF.o.2.2.2.2.1 oM _ _ _ _ _ _ _⟩):p:=h
theorem cQ22{p:Prop}(h:p:=by
 rw[e];exact⟨(HS.o.2.2.2.1.of_heap fun k hk _=>hs7 (by show k≠w.1.size+1;omega)).mono fun k hk=>oM,(((((((HS.o.2.2.2.2).setCell sI _).setCell sI _).setCell sI _).setCell sI _).setCell sI _).setCell sI _).setCell sI _⟩):p:=h
theorem cQ23{p:Prop}(h:p:=by
 try rw[List.filterMap_nil]
 try go_wp2_with fail
 go_meet
 exact⟨bw,sa,sc,rfl,rfl,((HFI.o.1.set 0 _).set 1 _).set 2 _,HFI.o.2.1.below (((HFI.o.2.2.1.setCell (p:=⟨bw,0,none⟩) HFI.o.2.2.2 _).setCell (p:=⟨bw,1,none⟩) HFI.o.2.2.2 _).setCell (p:=⟨bw,2,none⟩) HFI.o.2.2.2 _) nR,((HFI.o.2.2.1.setCell (p:=⟨bw,0,none⟩) HFI.o.2.2.2 _).setCell (p:=⟨bw,1,none⟩) HFI.o.2.2.2 _).setCell (p:=⟨bw,2,none⟩) HFI.o.2.2.2 _⟩):p:=h
theorem cQ24{p:Prop}(h:p:=by
 rw[e];exact⟨(M6.of_heap fun k hk _=>hs7 (by show k≠w.1.size+1;omega)).mono fun k hk=>oM,(((((((bel6).setCell sI _).setCell sI _).setCell sI _).setCell sI _).setCell sI _).setCell sI _).setCell sI _⟩):p:=h
theorem cQ25{p:Prop}(h:p:=by
 go_wp2;go_loopw [5] (fun i wr=>∃j:Nat,j<=m.6.length/\i=.int .i64 j/\w=wr) (fun i _=>m.6.length-(intOf i).toNat)
 case atStart=>exact⟨0,zL _,rfl,rfl⟩
 case round =>
  obtain⟨j,hj,rfl,rfl⟩:=hrel;by_cases hlt:j<m.6.length
  ·obtain⟨g,off,t,rfl,-,hc,p,rfl,-⟩:=HA.o j hlt;have k0:w.cell? ⟨g,off+j*11,none⟩=some (nI m.ds[j].id):=hc 0 dC;have k1:w.cell? ⟨g,off+j*11+1,none⟩=some (nI m.ds[j].kd):=hc 1 dC;generalize m.ds[j].kd=kd at k1;generalize m.ds[j].id=id at k0;clear hc;have j0:(0:Int)<=(j:Int):=oM
   have j1:(j:Int)<(m.6.length:Int):=oM
   by_cases hx:id=x
   ·subst hx;go_wp2;go_ret;exact⟨⟨_,rfl⟩,rfl⟩
   ·go_wp2;go_roundw
    case rel=>exact⟨j+1,oM,gK,by first| trivial|rfl⟩
    case measure=>simp[intOf];omega
  ·go_wp2;go_ret;exact⟨⟨_,rfl⟩,rfl⟩):p:=h
theorem cQ26{p:Prop}(h:p:=by
 have k1:=(AtC.new (w.alloc (.cells (M7 m a1 c1 a2 c2 a3 c3 a4 c4 a5 c5 a6 c6) 33)) 33 noM).over b2;have sz:=b2.size;simp at k1 sz;exact⟨((AtC.new w 33 _).alloc _).over b2,k1,(((bF _ w).alloc nR _).alloc sI _).trans (b2.mono sO),sz⟩):p:=h
theorem cQ27{p:Prop}(h:p:=by
 try rw[List.filterMap_nil]
 try go_wp2_with fail
 go_meet
 exact⟨bn,_,_,_,_,_,_,mn,rfl,zfb HFI.o.1 _ _ _ _ _ _ _,(HFI.o.2.1.of_heap fun k hk _=>zaa _ _ _ _ _ _ _ _ _ k (by have:lo<=k/\k<hi:=hk;have:=HFI.o.2.2.2.2.1;omega)).mono (fun k hk=>by have:lo<=k/\k<hi:=hk;have:=HFI.o.2.2.2.2.2.1;omega),HFI.o.2.2.1,zab HFI.o.2.2.2.1 HFI.o.2.2.2.2.2.2 _ _ _ _ _ _ _⟩):p:=h
theorem cQ28{p:Prop}(h:p:=by
 go_wp2_with (go_at_call 41;refine(CN.out _).mono ?_;rintro e w1 ⟨rfl,B1⟩;have K1:=(AtC.new wr 42 (K7 id kd io pt bk sl nm bt ot af pa bl.length pc)).over B1;have v0:w1.cell? ⟨wr.1.size,0,none⟩=some (nI id):=K1.cell 0;have v4:w1.cell? ⟨wr.1.size,4,none⟩=some (nI bk):=K1.cell 4;have v5:w1.cell? ⟨wr.1.size,5,none⟩=some (nI sl):=K1.cell 5;have HB1:=hJ (HB.o.trans ((((bF _ wr).alloc nR _).trans (B1.mono sI)).mono hsz));clear K1 B1)
 go_roundw
 case rel=>exact⟨j+1,oM,gK,HE.o,HB1.o⟩
 case measure=>simp[intOf];omega):p:=h
theorem cQ29{p:Prop}(h:p:=by
 go_wp2_with (go_at_call 38;refine(CN.out _).mono ?_;rintro e w1 ⟨rfl,B1⟩;have K1:=(AtC.new wr 42 (K7 id kd io pt bk sl nm bt ot af pa bl.length pc)).over B1;have v0:w1.cell? ⟨wr.1.size,0,none⟩=some (nI id):=K1.cell 0;have v4:w1.cell? ⟨wr.1.size,4,none⟩=some (nI bk):=K1.cell 4;have v5:w1.cell? ⟨wr.1.size,5,none⟩=some (nI sl):=K1.cell 5;have HB1:=hJ (HB.o.trans ((((bF _ wr).alloc nR _).trans (B1.mono sI)).mono hsz));clear K1 B1)
 go_roundw
 case rel=>exact⟨j+1,oM,gK,HE.o,HB1.o⟩
 case measure=>simp[intOf];omega):p:=h
theorem cQ30{p:Prop}(h:p:=by
 go_wp2;go_loopw [5] (fun i wr=>∃j:Nat,j<=l.length/\i=.int .i64 j/\∃q,wr=w.drewN q) (fun i _=>l.length-(intOf i).toNat)
 case atStart=>exact⟨0,zL _,rfl,0,rfl⟩
 case round =>
  obtain⟨j,hj,rfl,q,rfl⟩:=hrel;by_cases hlt:j<l.length
  ·obtain⟨g1,o1,rfl,_,k1⟩:=HA.o j hlt;obtain⟨g2,o2,rfl,_,k2⟩:=HB.o j hlt;obtain⟨t,ht⟩:∃t,l[j]=t:=⟨_,rfl⟩
   rw[ht]at k1 k2;clear ht;have j0:(0:Int)<=(j:Int):=oM
   have j1:(j:Int)<(l.length:Int):=oM
   go_wp2;go_quiet(fail)
   go_wp2;go_roundw
   case rel=>exact⟨j+1,oM,gK,_,rfl⟩
   case measure=>simp[intOf];omega
  ·go_wp2;go_ret;exact⟨rfl,bD bR _⟩):p:=h
theorem cQ31{p:Prop}(h:p:=by
 try rw[List.filterMap_nil]
 try go_wp2_with fail
 go_meet
 exact⟨bw,ba,bc,rfl,rfl,((HFI.o.1.set 0 _).set 1 _).set 2 _,HFI.o.2.1,((HFI.o.2.2.1.setCell (p:=⟨bw,0,none⟩) HFI.o.2.2.2 _).setCell (p:=⟨bw,1,none⟩) HFI.o.2.2.2 _).setCell (p:=⟨bw,2,none⟩) HFI.o.2.2.2 _,HFI.o.2.2.2⟩):p:=h
theorem cQ32{p:Prop}(h:p:=by
 have q:=HC.o (w2.alloc (.cells (M7 m b1 d1 b2 d2 b3 d3 b4 d4 b5 d5 b6 d6) 33)) (B2.alloc B2.size _);exact⟨q.1,q.2.1,q.2.2.1,AtC.new w2 33 _,O3.alloc _,q.2.2.2.1,sI⟩):p:=h
theorem cQ33{p:Prop}(h:p:=by
 obtain⟨hn,hlo,hbl⟩:=HRR.o;have hsz:=hbl.size;have:=HST.o;rw[hfx,if_pos rfl]at this;refine⟨by rw[this];exact k1,fun k hk=>?_,?_⟩
 ·rcases k3 k hk with e|e
  ·exact hlo k e
  ·simp at e;omega
 ·exact(hbl.alloc hsz _).grown k2 (by simp at hsz ⊢;omega) (fun k hk=>hlo k hk)):p:=h
theorem cQ34{p:Prop}(h:p:=by
 rw[←hW0]at b2;have k1:=(AtC.new (w.alloc (.cells (M9 m a1 c1 a2 c2 a3 c3 a4 c4 a5 c5 a6 c6 ta ts.length tc) 119)) 119 #[nZ,nZ,nZ,nZ,nZ,nZ,nI 0,nZ]).over b2;have sz:=b2.size;simp at k1 sz;exact⟨((AtC.new w 119 _).alloc _).over b2,k1,(((bF _ w).alloc nR _).alloc sI _).trans (b2.mono sO),sz⟩):p:=h
theorem cQ35{p:Prop}(h:p:=by
 cases ho:ops[j]? with
 | none=>rw[ho]at h;cases h
 | some o =>
  rw[ho]at h;simp only[List.all_eq_true,Array.any_eq_true]at h;obtain⟨i,hi,h2⟩:=h k hk;simp only[aE,beq_iff_eq]at h2;exact zby hr ho ⟨o.after[i],Array.getElem_mem hi,h2.1,h2.2⟩):p:=h
theorem cQ36{p:Prop}(h:p:=by
 go_wp2_with (go_at_call 138;refine(C4.out _).mono ?_;rintro e w2 ⟨rfl,B2⟩;obtain⟨x0,x1',x2,xl⟩:=(HR0.o.over B2).three;obtain⟨g0,g1,g2⟩:=(HR0.o.over B2).frz;have HB2:=hJ (HW0.o.trans (B2.mono sO));clear B2)
 refine bY (v:=.tuple #[.agg #[.bool false,nZ,eT],.bool false]) (by simp[results,go_sem,x0,x1',x2]) rfl ?_;rw[HE.o.1,HE.o.2.1,HE.o.2.2.1,HE.o.2.2.2];exact⟨_,rfl,SOwns.nil _ _ _,((HB2.o.setCell nR _).setCell nR _).setCell nR _⟩):p:=h
theorem cQ37{p:Prop}(h:p:=by
 intro B hB hne;constructor
 ·intro hc;simp only[Value.ownBlock,oJ]at hc;subst hc;rcases hat with hat|hat
  ·exact hne hat
  ·omega
 ·rw[hgrow.block B sO (fun e=>hne e.symm)];exact Below.heap_alloc _ _ _ hB):p:=h
theorem cQ38{p:Prop}(h:p:=by
 refine⟨?_,((hbw.setCell sI _).setCell sI _).setCell sI _⟩;have:=HR.o.1;rw[hq2,List.take_length]at this;refine this.of_heap fun k hk=>?_;have:=(HO1.o k hk).1;rw[hO_ _ ⟨w.1.size+1,2,none⟩ k _ (by show k≠w.1.size+1;omega),hO_ _ ⟨w.1.size+1,1,none⟩ k _ (by show k≠w.1.size+1;omega),hO_ _ ⟨w.1.size+1,0,none⟩ k _ (by show k≠w.1.size+1;omega)]):p:=h
theorem cQ39{p:Prop}(h:p:=by
 have HRR2:Hid (NOwns wr 42 11 u5 (rowsP f (ts.take (q+1)) (M5.ds.take (q+1)))/\(∀k,u5.ownBlock=some k->wc.1.size<=k)/\Bw wc wr):=by
  refine⟨?_,HRR.o.2.1,HRR.o.2.2⟩;have:=HST.o;rw[hfx]at this;simp only[Bool.false_eq_true,if_false,List.append_nil]at this;rw[this];exact HRR.o.1
 clear hfx HRR HST HXF;go_wp2;go_roundw
 case rel=>exact⟨q+1,oM,gK,HRR2.o⟩
 case measure=>simp[intOf];omega):p:=h
theorem cQ40{p:Prop}(h:p:=by
 have hlt:w1.1.size<=B:=by
  rcases Nat.lt_or_ge B w1.1.size with e|e
  ·exact absurd ⟨hB,hb,e⟩ (hn B rfl)
  ·exact e
 have hbb:=h1.box.lt;have hrr:=h1.res.lt;refine⟨h.arg.other oM _,h.res.other oM _,h.box.other oM _,?_,h.bel.setCell (by show w.1.size<=B;omega) _,h.hb⟩;exact h1.dsk.of_heap fun k hk hkl=>(hO_ w' ⟨B,j,none⟩ k x (by show k≠B;omega)).trans (hw.block k hkl)):p:=h
theorem cQ41{p:Prop}(h:p:=by
 exact(H7.o.dsk.of_heap fun k hk _=>(hs4 (by show k≠w.1.size+1;omega))).mono fun k hk=>oM):p:=h
theorem cQ42{p:Prop}(h:p:=by
 exact⟨rfl,TOwns.nil _ _,fun j hj=>by simp at hj,fun i j hi=>by simp at hi,fun j hj=>by simp at hj,(fun k e=>by cases e),fun j hj=>by simp at hj⟩):p:=h
theorem cQ43{p:Prop}(h:p:=by
 obtain⟨a,cap,rfl,h⟩:=h;refine⟨a,cap,rfl,fun j hj=>?_⟩;obtain⟨g,off,e,hg,hc⟩:=h j hj;exact⟨g,off,e,lL hg hb.size,(hb.cell (p:=⟨g,off+j,none⟩) (lL hg hB)).trans hc⟩):p:=h
theorem cQ44{p:Prop}(h:p:=by
 have s0:AtC (W.setCell ⟨(iw 10).1,0,none⟩ (.bool bd)) (iw 10).1 95 #[.bool bd,nZ,eT]:=A10.set 0 _;have s1:AtC ((W.setCell ⟨(iw 10).1,0,none⟩ (.bool bd)).setCell ⟨(iw 10).1,1,none⟩ (sL sa bss sc)) (iw 10).1 95 #[.bool bd,sL sa bss sc,eT]:=s0.set 1 _;exact⟨s1.set 2 _,R6,((bel.setCell hb10 _).setCell hb10 _).setCell hb10 _⟩):p:=h
theorem cQ45{p:Prop}(h:p:=by
 have b2:=zac b;have k1:=(AtC.new (w.alloc (.cells (M7 m a1 c1 a2 c2 a3 c3 a4 c4 a5 c5 a6 c6) 33)) 33 noM).over b2;have sz:=b2.size;simp at k1 sz;exact⟨((AtC.new w 33 _).alloc _).over b2,k1,(((bF _ w).alloc nR _).alloc sI _).trans (b2.mono sO),sz⟩):p:=h
theorem cQ46{p:Prop}(h:p:=by
 go_wp2;go_roundw
 case rel=>exact⟨j+1,oM,gK,H0.o⟩
 case measure=>simp[intOf];omega):p:=h
theorem cQ47{p:Prop}(h:p:=by
 go_wp2;go_quiet(fail)
 go_wp2;go_roundw
 case rel=>exact⟨j+1,oM,gK,_,rfl⟩
 case measure=>simp[intOf];omega):p:=h
theorem cQ48{p:Prop}(h:p:=by
 clear q9 q8 HS;go_wp2;refine bY (v:=.tuple #[.agg (M7 m b1 d1 b2 d2 b3 d3 b4 d4 b5 d5 b6 d6),nI 0]) (by simp[results,go_sem,r0,r1,r2,r3,r4,r5,r6]) rfl ⟨_,_,_,_,_,_,by rw[HFF.o];rfl,HM.o.1,HM.o.2⟩):p:=h
theorem cQ49{p:Prop}(h:p:=by
 have e0:x 0=.pointer (aA b 0):=hp.post 0 (hd 0 mz0);simp only[e0]at HK ⊢;go_simp;exact HK.o _ _ bR rfl):p:=h
theorem cQ50{p:Prop}(h:p:=by
 subst hx0;obtain⟨q0,q1,q2,z0,z1,z2,m0⟩:=HS3.o.ress;obtain⟨s0,s1,s2,r0,r1,r2,r9⟩:=HS3.o.cells;have H9:=hJ (HS3.o.fin (.bool d) (.slice b2 0 e2) (.string t));clear HS3;go_wp2;exact bY (v:=.agg #[.bool d,.slice b2 0 e2,.string t]) (by simp[results,go_sem,q0,q1,q2]) rfl ⟨_,_,_,_,rfl,H9.o.1,HK.o,H9.o.2⟩):p:=h
theorem cQ51{p:Prop}(h:p:=by
 have e:(js.filter fun i=>!(j::s).contains i)=(js.filter fun i=>!s.contains i).filter fun i=>!(i==j):=by
  rw[List.filter_filter];apply List.filter_congr;intro i _;by_cases e1:i=j<;>by_cases e2:i∈s<;>simp[e1,e2]
 rw[e,List.length_filter_lt_length_iff_exists];exact⟨j,List.mem_filter.2 ⟨hjs,by simpa using hjn⟩,sI⟩):p:=h
theorem cQ52{p:Prop}(h:p:=by
 obtain⟨⟨r,rfl⟩,hbx⟩:=hcut;have HZ:Hid (Bw W0 wc):=HA.o.1.trans (hbx.mono HA.o.1.size);clear hbx HA CH d1 d4 d6 d9 x2 y2 HBW
 cases r
 ·go_wp2;go_roundw
  case rel=>exact⟨q+1,oM,gK,HZ.o⟩
  case measure=>simp[intOf];omega
 ·go_wp2;go_ret;exact⟨⟨_,rfl⟩,(HW.o _ HZ.o).1⟩):p:=h
theorem cQ53{p:Prop}(h:p:=by
 refine List.all_eq_true.2 fun i hi=>?_;have his:i∈s:=by simpa using(List.mem_filter.1 hi).2
 cases ho:ops[i]? with
 | none=>rfl
 | some o =>
  simp only;refine Array.all_eq_true_iff_forall_mem.2 fun e he=>?_
  cases hbi:Region.binds md e with
  | false=>rfl
  | true =>
   have:=hcl i his o ho e he hbi;simp[this,hs _ this]):p:=h
theorem cQ54{p:Prop}(h:p:=by
 refine⟨h.1,?_⟩;rcases h.2 with h1|⟨g,cap,cur,h1,h2,h3,h4⟩
 ·exact .inl h1
 ·exact .inr ⟨g,cap,cur,h1,h2,by rw[hh g (by rw[h1];rfl),h3],h4⟩):p:=h
theorem cQ55{p:Prop}(h:p:=by
 refine wpOp_step (o:=_) rfl fun K' hK'=>?_;have HK:=hJ (fun v W' h1 h2=>hK' _ _ (hK v W' h1 h2));simp only[actOf];go_simp;have F:=HK.o (.slice (aA W.1.size 0) 0 0) (W.alloc (.cells #[] 4)) ((bF _ W).alloc nR _) ⟨rfl,sI,AtC.new W 4 _⟩;simp[go_sem,actOf,upd]at F;exact F):p:=h
theorem cQ56{p:Prop}(h:p:=by
 go_wp2;go_meet
 exact⟨⟨_,rfl⟩,bD bR _⟩):p:=h
theorem cQ57{p:Prop}(h:p:=by
 have q:=HC.o (w2.alloc (.cells (M7 m b1 d1 b2 d2 b3 d3 b4 d4 b5 d5 b6 d6) 33)) (B2.alloc B2.size _);exact⟨q.1,q.2.1,AtC.new w2 33 _,O3.alloc _,q.2.2.1⟩):p:=h
theorem cQ58{p:Prop}(h:p:=by
 have H1:=hJ h1;have hd:decide (x<(m.5.length:Int))=false:=dF h1;clear h;go_enter Tryz.func197,Tryz.ntmps197
 go_wp2
 go_end0
 have e:markU x m=m:=by unfold markU;rw[if_neg (fun q=>Int.not_lt.2 H1.o q.2)]
 rw[e];exact⟨rfl,H.out,Chg.refl _ _⟩):p:=h
theorem cQ59{p:Prop}(h:p:=by
 simp only[List.getElem_replicate]at e;rw[hz]at e;cases e):p:=h
theorem cQ60{p:Prop}(h:p:=by
 simp only[Value.ownBlock,oJ]at hk;subst hk;rcases hat with hat|hat
 ·exact .inl hat
 ·exact .inr oM):p:=h
theorem cQ61{p:Prop}(h:p:=by
 rw[←hW9];have z8:=B8.size;refine⟨⟨?_,(O8.bound.below ((bF _ w8).alloc nR _) nR).mono (fun k hk=>by have:w7.1.size<=k/\k<w8.1.size:=hk;omega),oM⟩,B8.alloc z8 _,oM,sO⟩;rw[←hbo];exact AtC.new w8 33 _):p:=h
theorem cQ62{p:Prop}(h:p:=by
 have e1:x 1=.pointer (aA b 0):=hp.post 1 (hd 1 mz0);simp only[e1]at HK ⊢;go_simp;exact HK.o _ _ bR rfl):p:=h
theorem cQ63{p:Prop}(h:p:=by
 go_wp2_with fail
 go_meet
 exact⟨⟨_,rfl⟩,rfl⟩):p:=h
theorem cQ64{p:Prop}(h:p:=by
 subst hk;go_wp2_with (first| (go_at_call 198;refine(CU.out _ _).mono ?_;rintro e w7 ⟨⟨z,rfl⟩,rfl⟩)| (go_at_call 203;refine(CV.out _ _).mono ?_;rintro e w7 ⟨⟨z,rfl⟩,rfl⟩))
 (go_meet;exact⟨⟨_,rfl⟩,rfl⟩)):p:=h
theorem cQ65{p:Prop}(h:p:=by
 go_wp2;refine bY (v:=.tuple #[.agg #[nI 0,nI 0,nZ],.bool false]) (by simp[results,go_sem,q0,q1,q2]) rfl ⟨_,rfl,ROwns.nil _ _ _,?_⟩;exact((HB.o.setCell nR _).setCell nR _).setCell nR _):p:=h
theorem cQ66{p:Prop}(h:p:=by
 have h1:=h.hc;have h2:=h.hx;exact⟨h.res.grown hd.2 (by intro e;cases e;omega),h.x.grown hd.2 (by intro e;cases e;omega),h.o.of_heap fun k hk hl=>hd.2.block k hl (by intro e;cases e;omega),h.dr.trans hd,h.hx,h.hc⟩):p:=h
theorem cQ67{p:Prop}(h:p:=by
 rcases R1.2 with⟨h1,h0⟩| ⟨g,cap,cur,h1,-⟩
 ·exact⟨none,0,by rw[h1,h0]⟩
 ·exact⟨_,_,h1⟩):p:=h
theorem cQ68{p:Prop}(h:p:=by
 have HV:=hJ hv;clear hv;go_enter Tryz.func50,Tryz.ntmps50
 go_wp2;go_ret;exact⟨by rw[HV.o];simp,rfl⟩):p:=h
theorem cQ69{p:Prop}(h:p:=by
 have e0:x 0=.pointer (aA w.1.size 0):=hp.post 0 (hd 0 mz0);have k0:=(HC.o W hp.bel).1;obtain⟨q0,q1,q2,q3⟩:=AtC.four k0;clear k0;simp only[e0]at HK ⊢;go_simp;exact HK.o _ _ bR rfl):p:=h
theorem cQ70{p:Prop}(h:p:=by
 have e7:x 6=x 7/\∃a r,x 7=.tuple #[a,r]:=hp.post 7 (hd 7 mz0);obtain⟨-,a,r,e7⟩:=e7;have ea:Hid (a=fstOf (x 7)):=by rw[e7];rfl
 simp only[e7]at HK ⊢;clear e7;go_simp;exact HK.o _ _ bR ea.out):p:=h
theorem cQ71{p:Prop}(h:p:=by
 have e7:x 6=x 7/\∃a r,x 7=.tuple #[a,r]:=hp.post 7 (hd 7 mz0);obtain⟨-,a,r,e7⟩:=e7;have ea:Hid (r=sndOf (x 7)):=by rw[e7];rfl
 simp only[e7]at HK ⊢;clear e7;go_simp;exact HK.o _ _ bR ea.out):p:=h
theorem cQ72{p:Prop}(h:p:=by
 have H0:=hJ h0;clear h;go_enter Tryz.func197,Tryz.ntmps197
 go_wp2
 go_end0
 have e:markU x m=m:=by unfold markU;rw[if_neg (fun q=>Int.not_le.2 H0.o q.1)]
 rw[e];exact⟨rfl,H.out,Chg.refl _ _⟩):p:=h
theorem cQ73{p:Prop}(h:p:=by
 clear hK hK' hp hd;go_simp;exact HK.o _ _ ((bF _ W).alloc nR _) ⟨rfl,sI,AtC.new W 33 _⟩):p:=h
theorem cQ74{p:Prop}(h:p:=by
 clear hK hK' hp hd;go_simp;exact HK.o _ _ ((bF _ W).alloc nR _) ⟨rfl,sI,AtC.new W 95 _⟩):p:=h
theorem cQ75{p:Prop}(h:p:=by
 go_wp2_with fail
 go_meet
 exact⟨⟨_,rfl⟩,_,rfl⟩):p:=h
theorem cQ76{p:Prop}(h:p:=by
 by_cases h:i∈s
 ·exact h
 ·have:i∈js.filter fun i=>!s.contains i:=List.mem_filter.2 ⟨hi,by simpa using h⟩;rw[List.eq_nil_of_length_eq_zero (Nat.le_zero.1 hc)]at this
  cases this):p:=h
theorem cQ77{p:Prop}(h:p:=by
 go_wp2_with fail
 refine(HC.o _).mono ?_;rintro e w1 ⟨rfl,B1⟩;have HB1:=hJ B1;clear B1;go_wp2
 go_ret2
 exact⟨rfl,((bF _ w).alloc nR _).trans (HB1.o.mono sI)⟩):p:=h
theorem cQ78{p:Prop}(h:p:=by
 rcases hk with hk|(hk|hk)| hk
 ·exact .inl (hU k (.inl (hs1 k hk)))
 ·exact .inl (hU k (.inr (.inl hk.1)))
 ·exact .inr hk
 ·exact .inl (hU k (.inr (.inr hk.1)))):p:=h
theorem cQ79{p:Prop}(h:p:=by
 have e5:x 5=.pointer (aA g (off+j*3)):=hp.post 5 (hd 5 mz0);obtain⟨-,-,q0,q1,q2,-⟩:=HC.o W hp.bel;simp only[e5]at HK ⊢;go_simp;exact HK.o _ _ bR rfl):p:=h
theorem cQ80{p:Prop}(h:p:=by
 go_wp2_with (go_at_call 132;refine(zfu _ _).mono ?_;rintro e w1 ⟨rfl,rfl⟩)
 go_ret;simp):p:=h
theorem cQ81{p:Prop}(h:p:=by
 clear HS HR HWR HKP Aw Rw Bw;go_wp2;go_roundw
 case rel=>exact⟨B',s',(q:Int)-1,rfl,rfl,by first| rfl|go_num,oM,oM,HX1.o⟩
 case measure=>simp[intOf]):p:=h
theorem cQ82{p:Prop}(h:p:=by
 obtain⟨S1,S2,S3,ts,h1,h2,h3,h4,-⟩:=HD4.o.o;obtain⟨g,k,e,-⟩:=h4.row.at 0 (by rw[h4.len,HDN.o];omega);simp only[vJ]at e;exact⟨g,e.1⟩):p:=h
theorem cQ83{p:Prop}(h:p:=by
 rcases hk with(hk|hk)| hk|hk
 ·exact .inl (k7 k (.inl hk))
 ·exact .inr hk
 ·exact .inl (k7 k (.inr (.inl hk)))
 ·exact .inl (k7 k (.inr (.inr hk)))):p:=h
theorem cQ84{p:Prop}(h:p:=by
 rcases hk with hk|(hk|hk)| hk
 ·exact .inl (z7 k (.inl hk))
 ·exact .inl (z7 k (.inr (.inl hk)))
 ·exact .inr hk
 ·exact .inl (z7 k (.inr (.inr hk)))):p:=h
theorem cQ85{p:Prop}(h:p:=by
 rcases hk with hk|hk|(hk|hk)
 ·exact .inl (k7 k (.inl hk))
 ·exact .inl (k7 k (.inr (.inl hk)))
 ·exact .inl (k7 k (.inr (.inr hk)))
 ·exact .inr hk):p:=h
theorem cQ86{p:Prop}(h:p:=by
 rcases hk with hk|hk|(hk|hk)
 ·exact .inl (z7 k (.inl hk))
 ·exact .inl (z7 k (.inr (.inl hk)))
 ·exact .inl (z7 k (.inr (.inr hk)))
 ·exact .inr hk):p:=h
theorem cQ87{p:Prop}(h:p:=by
 rcases h.2 with⟨rfl,h0⟩| ⟨g,cap,cur,rfl,_⟩
 ·exact⟨none,0,by rw[h0],fun _=>List.length_eq_zero_iff.1 h0⟩
 ·exact⟨_,_,rfl,fun h=>by cases h⟩):p:=h
theorem cQ88{p:Prop}(h:p:=by
 intro d hd2;rcases List.mem_append.mp hd2 with q|q
 ·exact hS.dd d q
 ·simp only[mN,nN,or_false]at q;subst q;exact⟨hd,hS.nx⟩):p:=h
theorem cQ89{p:Prop}(h:p:=by
 have e1:x 1=.pointer (aA w.1.size 0):=hp.post 1 (hd 1 mz0);have q0:=(HC.o W hp.bel).1.c0;simp only[e1]at HK ⊢;go_simp;exact HK.o _ _ bR rfl):p:=h
theorem cQ90{p:Prop}(h:p:=by
 have q9:=zcs f (ts.take q) (M5.ds.take q);rw[lK]at q9;show _<=_;omega):p:=h
theorem cQ91{p:Prop}(h:p:=by
 go_wp2;go_roundw
 case rel=>exact⟨n+1,oM,gK,ms,HQ5.o.1,HQ.o.2.1,HQ.o.2.2.1,HQ5.o.2.1,HQ5.o.2.2⟩
 case measure=>simp[intOf];omega):p:=h
theorem cQ92{p:Prop}(h:p:=by
 rcases List.mem_append.mp hs with e|e
 ·exact HR.o.2.2.1 s e
 ·simp only[mN,nN,or_false]at e;subst e;exact HNR.o):p:=h
theorem cQ93{p:Prop}(h:p:=by
 rcases List.mem_cons.1 hk with ek|hk2
 ·exact absurd (ei.trans ek.symm) hne
 ·rw[ei,za7,zaq _ _ _ _ (ne k hk2)];exact .inr (h.lo k hk2).2.2):p:=h
theorem cQ94{p:Prop}(h:p:=by
 go_enter Tryz.func196,Tryz.ntmps196
 go_wp2;go_ret;exact⟨⟨_,rfl⟩,rfl⟩):p:=h
theorem cQ95{p:Prop}(h:p:=by
 rw[zmv e1.out];exact(H2.o.2.setCell_other oM _).base_le oM):p:=h
theorem cQ96{p:Prop}(h:p:=by
 rcases List.mem_cons.1 hi with rfl|hi
 ·rw[za7];exact⟨hs,hs2,Nat.le_refl _⟩
 ·rw[zaq _ _ _ _ (ne i hi)];have:=h.lo i hi;omega):p:=h
theorem cQ97{p:Prop}(h:p:=by
 rcases List.mem_cons.1 hi with rfl|hi
 ·exact mC _ (hd k hk)
 ·exact mC _ (hcl i hi hne k hk)):p:=h
theorem cQ98{p:Prop}(h:p:=by
 rw[List.isEmpty_eq_false_iff,ByteArray.toList_eq];intro e;have h2:s.data.toList.length=s.size:=rfl;rw[e,List.length_nil]at h2;omega):p:=h
theorem cQ99{p:Prop}(h:p:=by
 unfold World.cell? at h
 cases hg:w.1[g]? with
 | none=>rw[hg]at h;simp at h
 | some o=>exact(Array.getElem?_eq_some_iff.1 hg).1):p:=h
theorem cQ100{p:Prop}(h:p:=by
 apply Bool.eq_false_iff.2;intro e;rw[beq_iff_eq]at e;exact hall fun i hi=>by
  rw[←e]at hi;simpa using(List.mem_filter.1 hi).2):p:=h
theorem cQ101{p:Prop}(h:p:=by
 clear q1 q2 q3 q4 HR;go_wp2
 go_end0
 exact⟨rfl,HF.o.1,HF.o.2⟩):p:=h
theorem cQ102{p:Prop}(h:p:=by
 refine⟨h.1,?_⟩;rcases h.2 with h1|⟨g,cap,cur,h1,h2,h3⟩
 ·exact .inl h1
 ·exact .inr ⟨g,cap,cur,h1,oM,h3⟩):p:=h
theorem cQ103{p:Prop}(h:p:=by
 rw[show ds=(ts.zip ds).map (·.2)from(List.map_snd_zip oM).symm];rw[List.filter_map,List.map_snd_zip oM];rfl):p:=h
theorem cQ104{p:Prop}(h:p:=by
 have HE:Hid (R=0):=by show R=0;rw[HD.o,zin _ _ _ _ oM]
 go_wp2;go_ret;exact⟨by rw[HE.o];rfl,HW.o _ HB.o⟩):p:=h
theorem cQ105{p:Prop}(h:p:=by
 obtain⟨q1,q2,q3,-⟩:=hr i hi;obtain⟨r1,r2,r3,-⟩:=hr j hj;rw[q3,r3];exact h.sep (f i) (f j) q1 r1 (fi i j hi hj hne) k):p:=h
theorem cQ106{p:Prop}(h:p:=by
 intro W hSw;(try dsimp only at hSw);go_simp;(try with_reducible rfl)):p:=h
theorem cQ107{p:Prop}(h:p:=by
 exact((((HO.o.setCell_other oM _).setCell_other oM _).setCell_other oM _).base_le oM)):p:=h
theorem cQ108{p:Prop}(h:p:=by
 rw[beq_eq_false_iff_ne,ByteArray.toList_eq,ByteArray.toList_eq];intro e;exact h (ByteArray.ext (Array.toList_inj.1 e))):p:=h
theorem cQ109{p:Prop}(h:p:=by
 clear HSN HA hd;go_wp2;go_roundw
 case rel=>exact⟨q+1,oM,gK,HN.o⟩
 case measure=>simp[intOf];omega):p:=h
theorem cQ110{p:Prop}(h:p:=by
 have:j∈js.filter fun i=>s.contains i:=List.mem_filter.2 ⟨hjs,by simpa using h⟩;have h3:=hj2.2;simp[hjs,h]at h3):p:=h
theorem cQ111{p:Prop}(h:p:=by
 clear b8 c8 HA;go_wp2;go_roundw
 case rel=>exact⟨q+1,oM,gK,HZ.o⟩
 case measure=>simp[intOf];omega):p:=h
theorem cQ112{p:Prop}(h:p:=by
 refine line3 rfl rfl rfl ?_;go_wp2;exact(HQQ.o _ _ _).2 ⟨rfl,_,bw,sa,sc,rfl,HM.o.1,HM.o.2.1,HM.o.2.2⟩):p:=h
theorem cQ113{p:Prop}(h:p:=by
 go_wp2_with (go_at_call 182;refine(G.out _).mono ?_;rintro e w1 ⟨rfl,hb⟩)
 go_ret3
 exact⟨zco HV.o,hb⟩):p:=h
theorem cQ114{p:Prop}(h:p:=by
 go_wp2_with fail
 go_meet
 exact⟨⟨_,rfl,sI⟩,rfl⟩):p:=h
theorem cQ115{p:Prop}(h:p:=by
 go_wp2;go_ret;exact⟨rfl,⟨Nat.le_refl _,bR.alloc nR _,0,h,heap_alloc_new w _,zL _⟩,sI⟩):p:=h
theorem cQ116{p:Prop}(h:p:=by
 clear hK hK' hp hd;go_simp;exact HK.o _ _ ((bF _ W).alloc nR _) ⟨rfl,sI,AtC.new W 4 _⟩):p:=h
theorem cQ117{p:Prop}(h:p:=by
 obtain⟨S1',S2',S3',ts',-,p2,p3,-,-,-,p7⟩:=q4;exact⟨p2,fun k hk=>p7 k (.inr (.inl (p3 k hk)))⟩):p:=h
theorem cQ118{p:Prop}(h:p:=by
 go_wp2;go_roundw
 case rel=>exact⟨j+1,oM,gK,HW.o⟩
 case measure=>simp[intOf];omega):p:=h
theorem cQ119{p:Prop}(h:p:=by
 exact(((H7.o.bel.setCell sI _).setCell sI _).setCell sI _).setCell sI _):p:=h
theorem cQ120{p:Prop}(h:p:=by
 rcases Nat.lt_or_gt_of_ne hne with q|q
 ·have:=h2 i j q hj2;omega
 ·have:=h2 j i q hi2;omega):p:=h
theorem cQ121{p:Prop}(h:p:=by
 go_ret3
 exact⟨SplR.mk ⟨_,_,_,rfl,dC,dC,fun e=>absurd e dC⟩,HB1.o⟩):p:=h
theorem cQ122{p:Prop}(h:p:=by
 exact((((HB.o.setCell sI _).setCell sI _).setCell sI _).setCell sI _)):p:=h
theorem cQ123{p:Prop}(h:p:=by
 rcases Nat.eq_zero_or_pos n with h|h
 ·exact h
 ·have:=Nat.mul_pos h hm0;simp at hcl;omega):p:=h
theorem cQ124{p:Prop}(h:p:=by
 go_wp2;go_ret;exact⟨rfl,bD (((bF _ w).alloc nR _).alloc sI _) _⟩):p:=h
theorem cQ125{p:Prop}(h:p:=by
 obtain⟨a',c,e,_⟩:=h.row.form;rw[hv]at e;simp only[vJ]at e;exact e.2.1):p:=h
theorem cQ126{p:Prop}(h:p:=by
 rcases hk with hk|hk
 ·exact(k5 k hk).2 e
 ·exact nS k hk (k7 k (.inr (.inr e)))):p:=h
theorem cQ127{p:Prop}(h:p:=by
 rcases hk with hk|hk
 ·exact(k5 k hk).1 e
 ·exact nS k hk (k7 k (.inr (.inl e)))):p:=h
theorem cQ128{p:Prop}(h:p:=by
 obtain⟨S,u,v,iv,bv,dv,pv,m,h1,h2⟩:=h;exact⟨S,u,v,iv,bv,dv,pv,m,h1.below hb,h2⟩):p:=h
theorem cQ129{p:Prop}(h:p:=by
 go_wp2_with fail
 go_meet
 exact⟨⟨_,rfl,fun e=>by simp at e⟩,bD bR _⟩):p:=h
theorem cQ130{p:Prop}(h:p:=by
 rcases e with e|e
 ·exact k6 k hk e
 ·exact(h4 k e).1 (k7 k (.inr (.inl hk)))):p:=h
theorem cQ131{p:Prop}(h:p:=by
 go_wp2_with fail
 go_meet
 exact⟨⟨_,rfl,fun e=>absurd e dC⟩,HB4.o⟩):p:=h
theorem cQ132{p:Prop}(h:p:=by
 exact((((bF _ w).alloc nR _).alloc sI _).alloc sO _).drew):p:=h
theorem cQ133{p:Prop}(h:p:=by
 rw[b0,b1];go_enter Tryz.func50,Tryz.ntmps50
 go_wp2;go_ret;exact⟨gK,rfl⟩):p:=h
theorem cQ134{p:Prop}(h:p:=by
 cases cs with
 | nil=>rfl
 | cons y r=>obtain⟨_,_,h,_⟩:=hc 0 y sI;cases h):p:=h
theorem cQ135{p:Prop}(h:p:=by
 have:=zgk id kd io pt bk sl nm bt ot af pa bl.length pc W;rw[hN]at this;exact this):p:=h
theorem cQ136{p:Prop}(h:p:=by
 have:=zc1 id kd io pt bk sl nm bt ot af pa bl.length pc W;rw[hN]at this;exact this):p:=h
theorem cQ137{p:Prop}(h:p:=by
 have:(xs.length+1)*bytes<=1000000000001*64:=Nat.mul_le_mul oM hby;omega):p:=h
theorem cQ138{p:Prop}(h:p:=by
 rcases e with e|e
 ·exact(k5 k hk).2 e
 ·exact(h4 k e).1 (k7 k (.inl hk))):p:=h
theorem cQ139{p:Prop}(h:p:=by
 rcases e with e|e
 ·exact(d1 k (hs1 k hk)).1 e.1
 ·have:=h12 k hk;omega):p:=h
theorem cQ140{p:Prop}(h:p:=by
 rw[←hW1];exact⟨za6 hcur hc _,AtC.new w 9 _,gA _ _ _⟩):p:=h
theorem cQ141{p:Prop}(h:p:=by
 unfold rest;rw[show s.size-i=(s.size-(i+1))+1 by omega];simp[more,h,hc]):p:=h
theorem cQ142{p:Prop}(h:p:=by
 exact⟨none,0,by rw[h0],oM,fun _=>List.length_eq_zero_iff.1 h0⟩):p:=h
theorem cQ143{p:Prop}(h:p:=by
 clear hbw hmb;go_wp2;go_ret;exact⟨⟨_,rfl⟩,(HW.o _ HR.o).1⟩):p:=h
theorem cQ144{p:Prop}(h:p:=by
 rcases e with⟨i,hi,e⟩| e
 ·have:=hps i hi k e;omega
 ·omega):p:=h
theorem cQ145{p:Prop}(h:p:=by
 clear D2 hz;go_wp2;go_ret;exact⟨z,hz2.out.1,hz2.out.2,rfl,HD2.o⟩):p:=h
theorem cQ146{p:Prop}(h:p:=by
 rcases hk with hk|hk
 ·exact d2 k hk.1 e.1
 ·have:=e.2;omega):p:=h
end Go.Proofs.YtgnplpmgkegcnaaGreat
namespace Go.RowKit
theorem Hid.o{p:Prop}(h:Hid p):p:=h
end Go.RowKit
namespace Go.Proofs.YtgnplpmgkegcnaaGreat
namespace Kit
open Go.RowKit
theorem hJ{p:Prop}(h:p):Hid p:=h
theorem bR{n:Nat}{w:Wd}:Below n w w:=bF _ _
theorem nR{n:Nat}:n<=n:=Nat.le_refl _
theorem mz0{a:Nat}{l:List Nat}:a∈a::l:=.head _
theorem mz1{a b:Nat}{l:List Nat}:a∈b::a::l:=.tail _ mz0
theorem mz2{a b c:Nat}{l:List Nat}:a∈b::c::a::l:=.tail _ mz1
theorem mz3{a b c d:Nat}{l:List Nat}:a∈b::c::d::a::l:=.tail _ mz2
theorem mz4{a b c d e:Nat}{l:List Nat}:a∈b::c::d::e::a::l:=.tail _ mz3
theorem mz5{a b c d e f:Nat}{l:List Nat}:a∈b::c::d::e::f::a::l:=.tail _ mz4
def bc(l:List UInt8):List Va:=l.map fun b=>Value.int .u8 (b.toNat:Int)
theorem zhi(a b:List UInt8):bc (a++b)=bc a++bc b:=by simp[bc]
theorem bc_one(b:UInt8):bc [b]=[Value.int .u8 (b.toNat:Int)]:=rfl
def Owns(w:Wd)(base:Nat)(e:TypeId)(v:Va)(l:List UInt8):Prop:=w.ownsRow base e 1 v l.length (bc l)
theorem Owns.alloc{w:Wd}{base:Nat}{e:TypeId}{v:Va}{l:List UInt8}(h:Owns w base e v l)(o:Obj):Owns (w.alloc o) base e v l:=World.ownsRow.alloc h o
theorem Owns.drew{w:Wd}{base:Nat}{e:TypeId}{v:Va}{l:List UInt8}(h:Owns w base e v l):Owns w.drew base e v l:=World.ownsRow.drew h
theorem Owns.nil(w:Wd)(base:Nat)(e:TypeId):Owns w base e (.slice none 0 0) []:=World.ownsRow_nil _ _ _ _
theorem Owns.lit0(w:Wd)(base:Nat)(e:TypeId)(hb:base<=w.1.size):Owns (w.alloc (.cells #[] e)) base e (.slice (aA w.1.size 0) 0 0) [] :=
 World.ownsRow_lit w #[] 0 hb (zL _) rfl
theorem zev{P:Program}{w:Wd}{base:Nat}{v:Va}{l:List UInt8}(src dst e:TypeId)(hs:P.underlying src=some (.slice e))(he:P.underlying e=some (.int .u8))(hd:P.underlying dst=some .string)
  (hown:Owns w base e v l):(convert src dst v).run P w=.ok (.string ⟨l.toArray⟩) w:=by
 unfold Owns at hown;rcases hown.2 with⟨rfl,h0⟩| ⟨g,cap,cur,rfl,_,hg,aC,aD,aF,aB⟩
 ·have:l=[]:=List.length_eq_zero_iff.1 h0;subst this;rw[run_convert_bytes_string w src dst e none 0 0 hs he hd];simp[Conv.bytesToString];rfl
 refine run_convert_bytes_back w src dst e ⟨g,0,none⟩ cap l hs he hd ?_;intro j hj;have hc:w.cell? ⟨g,j,none⟩=(bc l)[j]?:=hown.cellAt j oM;have ha:(⟨g,0,none⟩:Addr).add j=⟨g,j,none⟩:=by cases j<;>simp[Addr.add]
 rw[ha,hc];simp[bc,hj]
theorem zb4{P:Program}{w:Wd}{ops:Array Oper}{rest:List Oper}{o:Oper}{a:Act}{Q:Exit->Act->Wd->Prop}(w0:Wd)(hgd:o.guard=none)(s x:Operand)(t:TypeId)
  (ho:o.op=.call { callee:=.builtin .append,args:=#[s,x],argTypes:=#[t,t] }) (base:Nat) (e:TypeId) (ht:P.underlying t=some (.slice e))
  (hi:(P.info? e).map (fun i=>(i.zero,i.size,i.bytes))=some (some (.int .u8 0),1,1)) (v:Va) (pre:List UInt8) (hs:a.eval s=v) (hown:Owns w base e v pre)
  (hb:Below base w0 w) (hbase:base<=w.1.size) (g:Nat) (hx:a.eval x=.slice (aA g 0) 1 1) (b:UInt8) (z:Int) (hz:z=(b.toNat:Int)) (hc:w.cell? ⟨g,0,none⟩=some (.int .u8 z)) (hl:pre.length<=1000000000000)
  (h:∀v' w',Owns w' base e v' (pre++[b])->Below base w0 w'->w.grownBy w' v.ownBlock->wpList P ops Q rest (a.put o.dst v') w'):wpList P ops Q (o::rest) a w:=by
 obtain⟨i0,hi,aG,aF,aD⟩:=info_parts hi;unfold Owns at hown;refine wpList_append_own w hgd s x t ho base e i0 (.int .u8 0) 1 1 ht hi aG aF aD rfl dC v pre.length (bc pre) hs hown ⟨g,0,none⟩ 1 1 [.int .u8 z] hx rfl ?_ ?_ ?_ ?_ hbase ?_
 ·intro j u hj
  match j,hj with
  | 0,hj=>simp at hj;subst hj;simpa[Addr.add]using hc
 ·intro u hu;simp at hu;subst hu;rfl
 ·unfold maxLen;omega
 ·omega
 intro v' w' aC aB _;refine h v' w' ?_ (hb.grown aB hbase fun k hk=>(hown.lt k hk).1) aB;unfold Owns;rw[zhi,bc_one,←hz];simpa using aC
def hiB(m:Nat):UInt8:=UInt8.ofNat (m%128+128)
def loB(m:Nat):UInt8:=UInt8.ofNat m
def vbF:Nat->Nat->List UInt8
 | 0,n=>[loB n]
 | f+1,n=>if 127<n then hiB n::vbF f (n/128)else[loB n]
def vb(n:Nat):List UInt8:=vbF 9 n
theorem ziq(f n:Nat)(h:127<n):vbF (f+1) n=hiB n::vbF f (n/128):=by simp[vbF,h]
theorem zdm(f n:Nat)(h:n<=127):vbF f n=[loB n]:=by
 cases f with
 | zero=>rfl
 | succ f=>simp[vbF];omega
theorem vbF_len(f n:Nat):(vbF f n).length<=f+1:=by
 induction f generalizing n with
 | zero=>simp[vbF]
 | succ f ih =>
  unfold vbF
  split
  ·have:=ih (n/128);simp;omega
  simp
theorem zdd{x:Int}(h0:0<=x)(h1:x<=1000000000000):IntKind.i64.wrap x=x:=by
 simp[IntKind.wrap,IntKind.signed,IntKind.bits];omega
def Keeps(w w':Wd)(v v':Va):Prop:=∀B,B<w.1.size->v.ownBlock≠some B->v'.ownBlock≠some B/\w'.1[B]?=w.1[B]?
def Lies(w:Wd)(B:Nat)(s:BA):Prop:=∃cur e fr,w.1[B]?=some (.cells cur e fr)/\∀(k:Nat)(h:k<s.size),cur[k]?=some (.int .u8 (s[k].toNat:Int))
theorem Lies.cell{w:Wd}{B:Nat}{s:BA}(h:Lies w B s)(k:Nat)(hk:k<s.size):w.cell? ⟨B,k,none⟩=some (.int .u8 (s[k].toNat:Int)):=by
 obtain⟨cur,e,fr,h1,h2⟩:=h;rw[cell_of_row w B k cur e fr h1,h2 k hk]
theorem Lies.of_heap{w w':Wd}{B:Nat}{s:BA}(h:Lies w B s)(he:w'.1[B]?=w.1[B]?):Lies w' B s:=by
 obtain⟨cur,e,fr,h1,h2⟩:=h;exact⟨cur,e,fr,by rw[he,h1],h2⟩
theorem Lies.lt{w:Wd}{B:Nat}{s:BA}(h:Lies w B s):B<w.1.size:=by
 obtain⟨cur,e,fr,h1,_⟩:=h;exact(Array.getElem?_eq_some_iff.1 h1).1
theorem zd2{P:Program}(w0 w:Wd){ops:Array Oper}{rest:List Oper}{o:Oper}{a:Act}{Q:Exit->Act->Wd->Prop}(hgd:o.guard=none)(s x:Operand)(t:TypeId)
  (ho:o.op=.call { callee:=.builtin .append,args:=#[s,x],argTypes:=#[t,t] }) (base:Nat) (e:TypeId) (ht:P.underlying t=some (.slice e))
  (hi:(P.info? e).map (fun i=>(i.zero,i.size,i.bytes))=some (some (.int .u8 0),1,1)) (v:Va) (pre:List UInt8) (hs:a.eval s=v) (hown:Owns w base e v pre)
  (hb:Below base w0 w) (hbase:base<=w.1.size) (hx:a.eval x=.slice (aA w.1.size 0) 1 1) (b:UInt8) (z:Int) (hz:z=(b.toNat:Int)) (hl:pre.length<=1000000000000)
  (h:∀v' w',Owns w' base e v' (pre++[b])->Below base w0 w'->Keeps w w' v v'->wpList P ops Q rest (a.put o.dst v') w'):wpList P ops Q (o::rest) a (w.alloc (.cells #[.int .u8 z] e)):=by
 obtain⟨i0,hi,aF,aG,aD⟩:=info_parts hi;have aB:(w.alloc (.cells #[.int .u8 z] e)).ownsRow base e 1 v pre.length (bc pre):=hown.alloc _;refine wpList_append_lies _ hgd s x t ho base e i0 (.int .u8 0) 1 1 ht hi aF aG aD rfl dC v pre.length (bc pre) hs aB ⟨w.1.size,0,none⟩ 1 1 [.int .u8 z] hx rfl ?_ ?_ dC ?_ ?_ sO (w.1.size+1) sI ?_
 ·intro j u hj
  match j,hj with
  | 0,hj=>simp at hj;subst hj;simp[Addr.add]
 ·intro u hu;simp at hu;subst hu;rfl
 ·unfold maxLen;omega
 ·omega
 intro g' cap w' aC hgrow hat _;refine h _ w' ?_ ((hb.alloc hbase _).grown hgrow sO fun k hk=>(aB.lt k hk).1) ?_
 ·unfold Owns;rw[zhi,bc_one,←hz,lA];exact aC
 exact cQ37
theorem zac{w w1:Wd}(h:Bw w.drew w1):Bw w w1:=(bF _ w).drew.trans h
theorem zco{v v':Va}(h:v'=v):Ending.returned v=.returned v':=by rw[h]
end Kit
namespace Kit
open Go.RowKit
def ROwns(w:Wd)(base:Nat)(e:TypeId)(v:Va)(xs:List Va):Prop:=w.ownsRow base e 1 v xs.length xs
theorem ROwns.alloc{w:Wd}{base:Nat}{e:TypeId}{v:Va}{l:List Va}(h:ROwns w base e v l)(o:Obj):ROwns (w.alloc o) base e v l:=World.ownsRow.alloc h o
theorem ROwns.drew{w:Wd}{base:Nat}{e:TypeId}{v:Va}{l:List Va}(h:ROwns w base e v l):ROwns w.drew base e v l:=World.ownsRow.drew h
theorem ROwns.nil(w:Wd)(base:Nat)(e:TypeId):ROwns w base e (.slice none 0 0) []:=World.ownsRow_nil _ _ _ _
theorem ROwns.lit0(w:Wd)(base:Nat)(e:TypeId)(hb:base<=w.1.size):ROwns (w.alloc (.cells #[] e)) base e (.slice (aA w.1.size 0) 0 0) [] :=
 World.ownsRow_lit w #[] 0 hb (zL _) rfl
theorem ROwns.lit(w:Wd)(base:Nat)(e:TypeId)(cs:Array Va)(hb:base<=w.1.size)(hm:cs.size<=maxLen):ROwns (w.alloc (.cells cs e)) base e (.slice (aA w.1.size 0) cs.size cs.size) cs.toList:=by
 have:=World.ownsRow_lit (base:=base) (e:=e) (size:=1) w cs cs.size hb hm oM;unfold ROwns
 rwa[Array.length_toList]
theorem ROwns.lt{w:Wd}{base:Nat}{e:TypeId}{v:Va}{l:List Va}(h:ROwns w base e v l):∀k,v.ownBlock=some k->base<=k/\k<w.1.size:=World.ownsRow.lt h
theorem ROwns.base_le{w:Wd}{base base':Nat}{e:TypeId}{v:Va}{l:List Va}(h:ROwns w base e v l)(hb:base'<=base):ROwns w base' e v l:=by
 exact cQ102
theorem ROwns.form{w:Wd}{base:Nat}{e:TypeId}{v:Va}{l:List Va}(h:ROwns w base e v l):∃a cap,v=.slice a l.length cap/\(a=none->l=[]):=by
 exact cQ87
theorem ROwns.of_heap{w w':Wd}{base:Nat}{e:TypeId}{v:Va}{l:List Va}(h:ROwns w base e v l)(hh:∀k,v.ownBlock=some k->w'.1[k]?=w.1[k]?):ROwns w' base e v l:=by
 exact cQ54
theorem ROwns.below{w w':Wd}{base B:Nat}{e:TypeId}{v:Va}{l:List Va}(h:ROwns w base e v l)(hb:Below B w w')(hB:w.1.size<=B):ROwns w' base e v l :=
 h.of_heap fun k hk=>hb.block k (by have:=(h.lt k hk).2;omega)
theorem ROwns.grown{w w':Wd}{base:Nat}{e:TypeId}{v:Va}{l:List Va}{row:Option Nat}(h:ROwns w base e v l)(hg:w.grownBy w' row)(hn:∀k,v.ownBlock=some k->row≠some k):ROwns w' base e v l :=
 h.of_heap fun k hk=>hg.block k (h.lt k hk).2 (fun e=>hn k hk e.symm)
theorem zal{w w':Wd}(h:Bw w w')(row:Option Nat):w.grownBy w' row:=⟨h.os,h.tape,h.output,h.size,fun k hk _=>h.block k hk⟩
theorem zae{a b c:Wd}{row:Option Nat}(h:a.grownBy b row)(k:b.grownBy c row):a.grownBy c row :=
 ⟨k.os.trans h.os,k.tape.trans h.tape,k.output.trans h.output,lT h.size k.size,fun i hi hr=>(k.block i (by have:=h.size;omega) hr).trans (h.block i hi hr)⟩
theorem zb5{P:Program}(w0 w:Wd){ops:Array Oper}{rest:List Oper}{o:Oper}{a:Act}{Q:Exit->Act->Wd->Prop}(hgd:o.guard=none)(s x:Operand)(t:TypeId)
  (ho:o.op=.call { callee:=.builtin .append,args:=#[s,x],argTypes:=#[t,t] }) (base:Nat) (e:TypeId) (ht:P.underlying t=some (.slice e)) (z:Va) (bytes:Nat)
  (hi:(P.info? e).map (fun i=>(i.zero,i.size,i.bytes))=some (some z,1,bytes)) (hzc:z.cells.size=1) (hby:bytes<=64) (v:Va) (xs:List Va) (hs:a.eval s=v) (hown:ROwns w base e v xs)
  (hb:Below base w0 w) (hbase:base<=w.1.size) (u:Va) (hu:u.oneCell'=true) (hx:a.eval x=.slice (aA w.1.size 0) 1 1) (hl:xs.length<=1000000000000)
  (h:∀v' w',ROwns w' base e v' (xs++[u])->Below base w0 w'->Keeps w w' v v'->wpList P ops Q rest (a.put o.dst v') w'):wpList P ops Q (o::rest) a (w.alloc (.cells #[u] e)):=by
 obtain⟨i0,hi,aF,aG,aD⟩:=info_parts hi;have aB:(w.alloc (.cells #[u] e)).ownsRow base e 1 v xs.length xs:=hown.alloc _;refine wpList_append_lies _ hgd s x t ho base e i0 z 1 bytes ht hi aF aG aD hzc dC v xs.length xs hs aB ⟨w.1.size,0,none⟩ 1 1 [u] hx rfl ?_ ?_ dC ?_ ?_ sO (w.1.size+1) sI ?_
 ·intro j y hj
  match j,hj with
  | 0,hj=>simp at hj;subst hj;simp[Addr.add]
 ·intro y hy;simp at hy;subst hy;exact hu
 ·unfold maxLen;omega
 ·exact cQ137
 intro g' cap w' aC hgrow hat _;refine h _ w' ?_ ((hb.alloc hbase _).grown hgrow sO fun k hk=>(aB.lt k hk).1) ?_
 ·unfold ROwns;rw[lA];exact aC
 exact cQ37
theorem ROwns.at{w:Wd}{base:Nat}{e:TypeId}{v:Va}{l:List Va}(h:ROwns w base e v l)(k:Nat)(hk:k<l.length):
  ∃g cap,v=.slice (aA g 0) l.length cap/\w.cell? ⟨g,k,none⟩=l[k]?/\w.frozen? ⟨g,k,none⟩=false/\base<=g/\g<w.1.size/\l.length<=cap:=by
 have aB:=h.lt;rcases h.2 with⟨h1,h0⟩| ⟨g,cap,cur,rfl,h2,h3,h4,h5,h6,h7⟩
 ·omega
 have h':w.ownsRow base e 1 (.slice (aA g 0) l.length cap) l.length l:=h;exact⟨g,cap,rfl,h'.cellAt k oM,h'.frozenAt k,h2,(aB g rfl).2,h4⟩
theorem ROwns.stored{w:Wd}{base g cap:Nat}{e:TypeId}{l:List Va}(h:ROwns w base e (.slice (aA g 0) l.length cap) l)(k:Nat)(u:Va):
  ROwns (w.setCell ⟨g,k,none⟩ u) base e (.slice (aA g 0) l.length cap) (l.set k u)/\w.grownBy (w.setCell ⟨g,k,none⟩ u) (some g):=by
 have:=World.ownsRow.stored h k u;refine⟨?_,this.2⟩;unfold ROwns;rw[lS];exact this.1
end Kit
namespace Kit
open Go.RowKit
theorem ROwns.setCell_other{w:Wd}{base:Nat}{e:TypeId}{v:Va}{l:List Va}(h:ROwns w base e v l){b j:Nat}(hp:b<base)(x:Va):ROwns (w.setCell ⟨b,j,none⟩ x) base e v l :=
 h.of_heap fun k hk=>hO_ w ⟨b,j,none⟩ k x (fun e=>by have:=(h.lt k hk).1;simp at e;omega)
theorem za2(w:Wd)(o:Obj):(w.alloc o).heap[w.1.size]?=some o:=by
 show(w.heap.push o)[w.1.size]?=some o;simp
end Kit
open Go.RowKit Kit
theorem Tryz.u22:Tryz.prog.underlying 22=some (.slice 5):=by kernel_rfl
theorem Tryz.i5:(Tryz.prog.info? 5).map (fun i=>(i.zero,i.size,i.bytes))=some (some (.int .u8 0),1,1):=by kernel_rfl
theorem za3{b c:Bool}(h:b=c):Ending.returned (.bool b)=.returned (.bool c):=by rw[h]
namespace Kit
abbrev Sl:=ByteArray×Int
def sc:List Sl->List Va
 | []=>[]
 | s::r=>.string s.1::nI s.2::sc r
theorem zdn(xs:List Sl):(sc xs).length=xs.length*2:=by
 induction xs with
 | nil=>rfl
 | cons s r ih=>simp[sc,ih];omega
theorem zlu(a b:List Sl):sc (a++b)=sc a++sc b:=by
 induction a with
 | nil=>rfl
 | cons s r ih=>simp[sc,ih]
theorem zlv(xs:List Sl)(j:Nat)(h:j<xs.length):(sc xs)[j*2]?=some (.string xs[j].1):=by
 induction xs generalizing j with
 | nil=>simp at h
 | cons s r ih =>
  cases j with
  | zero=>rfl
  | succ j =>
   rw[show(j+1)*2=j*2+1+1 by omega];simp only[sc,List.getElem?_cons_succ,gC];exact ih j uI
theorem sc_ino(xs:List Sl)(j:Nat)(h:j<xs.length):(sc xs)[j*2+1]?=some (nI xs[j].2):=by
 induction xs generalizing j with
 | nil=>simp at h
 | cons s r ih =>
  cases j with
  | zero=>rfl
  | succ j =>
   rw[show(j+1)*2+1=j*2+1+1+1 by omega];simp only[sc,List.getElem?_cons_succ,gC];exact ih j uI
theorem zir(xs:List Sl)(j:Nat)(t:BA)(h:j<xs.length):(sc xs).set (j*2) (.string t)=sc (xs.set j (t,xs[j].2)):=by
 induction xs generalizing j with
 | nil=>simp at h
 | cons s r ih =>
  cases j with
  | zero=>rfl
  | succ j =>
   rw[show(j+1)*2=j*2+1+1 by omega];simp only[sc,cS,gC];rw[ih j uI]
theorem zkd(xs:List Sl)(j:Nat)(z:Int)(h:j<xs.length):(sc xs).set (j*2+1) (nI z)=sc (xs.set j (xs[j].1,z)):=by
 induction xs generalizing j with
 | nil=>simp at h
 | cons s r ih =>
  cases j with
  | zero=>rfl
  | succ j =>
   rw[show(j+1)*2+1=j*2+1+1+1 by omega];simp only[sc,cS,gC];rw[ih j uI]
def SOwns(w:Wd)(base:Nat)(e:TypeId)(v:Va)(xs:List Sl):Prop:=w.ownsRow base e 2 v xs.length (sc xs)
theorem SOwns.alloc{w:Wd}{base:Nat}{e:TypeId}{v:Va}{l:List Sl}(h:SOwns w base e v l)(o:Obj):SOwns (w.alloc o) base e v l:=World.ownsRow.alloc h o
theorem SOwns.drew{w:Wd}{base:Nat}{e:TypeId}{v:Va}{l:List Sl}(h:SOwns w base e v l):SOwns w.drew base e v l:=World.ownsRow.drew h
theorem SOwns.nil(w:Wd)(base:Nat)(e:TypeId):SOwns w base e (.slice none 0 0) []:=World.ownsRow_nil _ _ _ _
theorem SOwns.lit(w:Wd)(base:Nat)(e:TypeId)(cs:Array Va)(xs:List Sl)(hc:cs.toList=sc xs)(hb:base<=w.1.size)(hm:xs.length<=maxLen):SOwns (w.alloc (.cells cs e)) base e (.slice (aA w.1.size 0) xs.length xs.length) xs:=by
 have h1:cs.size=xs.length*2:=by rw[←Array.length_toList,hc,zdn]
 have:=World.ownsRow_lit (base:=base) (e:=e) (size:=2) w cs xs.length hb hm h1;unfold SOwns
 rwa[hc]at this
theorem SOwns.lt{w:Wd}{base:Nat}{e:TypeId}{v:Va}{l:List Sl}(h:SOwns w base e v l):∀k,v.ownBlock=some k->base<=k/\k<w.1.size:=World.ownsRow.lt h
theorem SOwns.base_le{w:Wd}{base base':Nat}{e:TypeId}{v:Va}{l:List Sl}(h:SOwns w base e v l)(hb:base'<=base):SOwns w base' e v l:=by
 exact cQ102
theorem SOwns.form{w:Wd}{base:Nat}{e:TypeId}{v:Va}{l:List Sl}(h:SOwns w base e v l):∃a cap,v=.slice a l.length cap/\(a=none->l=[]):=by
 exact cQ87
theorem SOwns.of_heap{w w':Wd}{base:Nat}{e:TypeId}{v:Va}{l:List Sl}(h:SOwns w base e v l)(hh:∀k,v.ownBlock=some k->w'.1[k]?=w.1[k]?):SOwns w' base e v l:=by
 exact cQ54
theorem SOwns.below{w w':Wd}{base B:Nat}{e:TypeId}{v:Va}{l:List Sl}(h:SOwns w base e v l)(hb:Below B w w')(hB:w.1.size<=B):SOwns w' base e v l :=
 h.of_heap fun k hk=>hb.block k (by have:=(h.lt k hk).2;omega)
theorem SOwns.grown{w w':Wd}{base:Nat}{e:TypeId}{v:Va}{l:List Sl}{row:Option Nat}(h:SOwns w base e v l)(hg:w.grownBy w' row)(hn:∀k,v.ownBlock=some k->row≠some k):SOwns w' base e v l :=
 h.of_heap fun k hk=>hg.block k (h.lt k hk).2 (fun e=>hn k hk e.symm)
theorem SOwns.setCell_other{w:Wd}{base:Nat}{e:TypeId}{v:Va}{l:List Sl}(h:SOwns w base e v l){b j:Nat}(hp:v.ownBlock≠some b)(x:Va):SOwns (w.setCell ⟨b,j,none⟩ x) base e v l :=
 h.of_heap fun k hk=>hO_ w ⟨b,j,none⟩ k x (fun e=>by simp at e;subst e;exact hp hk)
theorem SOwns.setCell_low{w:Wd}{base:Nat}{e:TypeId}{v:Va}{l:List Sl}(h:SOwns w base e v l){b j:Nat}(hp:b<base)(x:Va):SOwns (w.setCell ⟨b,j,none⟩ x) base e v l :=
 h.setCell_other (fun e=>by have:=(h.lt b e).1;omega) x
theorem SOwns.at{w:Wd}{base:Nat}{e:TypeId}{v:Va}{l:List Sl}(h:SOwns w base e v l)(k:Nat)(hk:k<l.length):
  ∃g cap,v=.slice (aA g 0) l.length cap/\w.cell? ⟨g,k*2,none⟩=some (.string l[k].1)/\w.cell? ⟨g,k*2+1,none⟩=some (nI l[k].2)/\(∀j,w.frozen? ⟨g,j,none⟩=false)/\base<=g/\g<w.1.size/\l.length<=cap:=by
 have aB:=h.lt;rcases h.2 with⟨h1,h0⟩| ⟨g,cap,cur,rfl,h2,h3,h4,h5,h6,h7⟩
 ·omega
 have h':w.ownsRow base e 2 (.slice (aA g 0) l.length cap) l.length (sc l):=h;exact⟨g,cap,rfl,(h'.cellAt _ oM).trans (zlv l k hk),(h'.cellAt _ oM).trans (sc_ino l k hk),h'.frozenAt,h2,(aB g rfl).2,h4⟩
theorem SOwns.set_name{w:Wd}{base g cap:Nat}{e:TypeId}{l:List Sl}(h:SOwns w base e (.slice (aA g 0) l.length cap) l)(k:Nat)(hk:k<l.length)(t:BA):
  SOwns (w.setCell ⟨g,k*2,none⟩ (.string t)) base e (.slice (aA g 0) l.length cap) (l.set k (t,l[k].2))/\w.grownBy (w.setCell ⟨g,k*2,none⟩ (.string t)) (some g):=by
 have:=World.ownsRow.stored h (k*2) (.string t);refine⟨?_,this.2⟩;unfold SOwns;rw[lS,←zir l k t hk];exact this.1
theorem SOwns.set_ino{w:Wd}{base g cap:Nat}{e:TypeId}{l:List Sl}(h:SOwns w base e (.slice (aA g 0) l.length cap) l)(k:Nat)(hk:k<l.length)(z:Int):
  SOwns (w.setCell ⟨g,k*2+1,none⟩ (nI z)) base e (.slice (aA g 0) l.length cap) (l.set k (l[k].1,z))/\w.grownBy (w.setCell ⟨g,k*2+1,none⟩ (nI z)) (some g):=by
 have:=World.ownsRow.stored h (k*2+1) (nI z);refine⟨?_,this.2⟩;unfold SOwns;rw[lS,←zkd l k z hk];exact this.1
theorem SOwns.set_both{w:Wd}{base g cap:Nat}{e:TypeId}{l:List Sl}(h:SOwns w base e (.slice (aA g 0) l.length cap) l)(k:Nat)(hk:k<l.length)(t:BA)(z:Int):
  SOwns ((w.setCell ⟨g,k*2,none⟩ (.string t)).setCell ⟨g,k*2+1,none⟩ (nI z)) base e (.slice (aA g 0) l.length cap) (l.set k (t,z))/\w.grownBy ((w.setCell ⟨g,k*2,none⟩ (.string t)).setCell ⟨g,k*2+1,none⟩ (nI z)) (some g):=by
 have h1:=h.set_name k hk t;have h2:SOwns (w.setCell ⟨g,k*2,none⟩ (.string t)) base e (.slice (aA g 0) (l.set k (t,l[k].2)).length cap) (l.set k (t,l[k].2)):=by rw[lS];exact h1.1
 have h3:=h2.set_ino k uH z;simp only[lS,gS_,List.set_set]at h3;exact⟨h3.1,zae h1.2 h3.2⟩
def RSl(w:Wd)(v:Va)(xs:List Sl):Prop:=∃a cap,v=.slice a xs.length cap/\xs.length<=cap/\∀(j:Nat)(h:j<xs.length),∃g off,a=some ⟨g,off,none⟩/\g<w.1.size/\w.cell? ⟨g,off+j*2,none⟩=some (.string xs[j].1)/\w.cell? ⟨g,off+j*2+1,none⟩=some (nI xs[j].2)
theorem RSl.below{w w':Wd}{B:Nat}{v:Va}{xs:List Sl}(h:RSl w v xs)(hb:Below B w w')(hB:w.1.size<=B):RSl w' v xs:=by
 obtain⟨a,cap,rfl,aC,h⟩:=h;refine⟨a,cap,rfl,aC,fun j hj=>?_⟩;obtain⟨g,aB,e,hg,hc,hd⟩:=h j hj;exact⟨g,aB,e,lL hg hb.size,(hb.cell (p:=⟨g,aB+j*2,none⟩) (lL hg hB)).trans hc,(hb.cell (p:=⟨g,aB+j*2+1,none⟩) (lL hg hB)).trans hd⟩
theorem RSl.alloc{w:Wd}{v:Va}{xs:List Sl}(h:RSl w v xs)(o:Obj):RSl (w.alloc o) v xs:=h.below ((bF _ w).alloc nR o) nR
theorem RSl.drew{w:Wd}{v:Va}{xs:List Sl}(h:RSl w v xs):RSl w.drew v xs:=h
theorem RSl.form{w:Wd}{v:Va}{xs:List Sl}(h:RSl w v xs):∃a c,v=.slice a xs.length c:=by
 obtain⟨a,c,h,_⟩:=h;exact⟨a,c,h⟩
theorem SOwns.rsl{w:Wd}{base:Nat}{e:TypeId}{v:Va}{xs:List Sl}(h:SOwns w base e v xs):RSl w v xs:=by
 rcases h.2 with⟨rfl,h0⟩| ⟨g,cap,cur,rfl,_,_,aB,_⟩
 ·have:xs=[]:=List.length_eq_zero_iff.1 h0;subst this;exact⟨none,0,rfl,Nat.le_refl _,fun j hj=>absurd hj (Nat.not_lt_zero _)⟩
 refine⟨_,cap,rfl,aB,fun j hj=>?_⟩;obtain⟨g',c',e1,k1,k2,_,_,k5,_⟩:=h.at j hj;simp only[vJ,oJ,aJ]at e1;obtain⟨⟨rfl,-,-⟩,-,rfl⟩:=e1;exact⟨g,0,rfl,k5,by rw[zA_];exact k1,by rw[zA_];exact k2⟩
end Kit
namespace Kit
def fc(l:List Bool):List Va:=l.map fun z=>Value.bool z
theorem zad(l:List Bool):(fc l).length=l.length:=by simp[fc]
theorem zdo(a b:List Bool):fc (a++b)=fc a++fc b:=by simp[fc]
def RFl(w:Wd)(v:Va)(xs:List Bool):Prop:=∃a cap,v=.slice a xs.length cap/\∀(j:Nat)(h:j<xs.length),∃g off,a=some ⟨g,off,none⟩/\g<w.1.size/\w.cell? ⟨g,off+j,none⟩=some (.bool xs[j])
theorem RFl.below{w w':Wd}{B:Nat}{v:Va}{xs:List Bool}(h:RFl w v xs)(hb:Below B w w')(hB:w.1.size<=B):RFl w' v xs:=by
 exact cQ43
theorem ROwns.rfl{w:Wd}{base:Nat}{e:TypeId}{v:Va}{xs:List Bool}(h:ROwns w base e v (fc xs)):RFl w v xs:=by
 obtain⟨a,cap,rfl,_⟩:=h.form;refine⟨a,cap,by rw[zad],fun j hj=>?_⟩;obtain⟨g,c,e1,k1,_,_,k4,_⟩:=h.at j (by rw[zad];exact hj);simp only[vJ]at e1;refine⟨g,0,e1.1,k4,?_⟩;rw[zA_,k1];simp[fc,hj]
theorem RFl.alloc{w:Wd}{v:Va}{xs:List Bool}(h:RFl w v xs)(o:Obj):RFl (w.alloc o) v xs:=h.below ((bF _ w).alloc nR o) nR
theorem RFl.drew{w:Wd}{v:Va}{xs:List Bool}(h:RFl w v xs):RFl w.drew v xs:=h.below (bF w.1.size w).drew nR
theorem RFl.form{w:Wd}{v:Va}{xs:List Bool}(h:RFl w v xs):∃a c,v=.slice a xs.length c:=by
 obtain⟨a,c,h,_⟩:=h;exact⟨a,c,h⟩
end Kit
namespace Kit
def ic(l:List Int):List Va:=l.map fun z=>nI z
theorem zaf(l:List Int):(ic l).length=l.length:=by simp[ic]
def RInts(w:Wd)(v:Va)(xs:List Int):Prop:=∃a cap,v=.slice a xs.length cap/\∀(j:Nat)(h:j<xs.length),∃g off,a=some ⟨g,off,none⟩/\g<w.1.size/\w.cell? ⟨g,off+j,none⟩=some (nI xs[j])
theorem RInts.below{w w':Wd}{B:Nat}{v:Va}{xs:List Int}(h:RInts w v xs)(hb:Below B w w')(hB:w.1.size<=B):RInts w' v xs:=by
 exact cQ43
theorem ROwns.rints{w:Wd}{base:Nat}{e:TypeId}{v:Va}{xs:List Int}(h:ROwns w base e v (ic xs)):RInts w v xs:=by
 obtain⟨a,cap,rfl,_⟩:=h.form;refine⟨a,cap,by rw[zaf],fun j hj=>?_⟩;obtain⟨g,c,e1,k1,_,_,k4,_⟩:=h.at j (by rw[zaf];exact hj);simp only[vJ]at e1;refine⟨g,0,e1.1,k4,?_⟩;rw[zA_,k1];simp[ic,hj]
end Kit
namespace Kit
end Kit
theorem Tryz.u24:Tryz.prog.underlying 24=some (.slice 4):=by kernel_rfl
theorem Tryz.i4:(Tryz.prog.info? 4).map (fun i=>(i.zero,i.size,i.bytes))=some (some (.bool false),1,1):=by kernel_rfl
theorem zis(n:Nat)(h:n<=8388608)(w:Wd):(Instr.makeSlice 24 (nI (n:Int)) (nI (n:Int))).run Tryz.prog w=.ok (.slice (aA w.1.size 0) n n) (w.n (madeCells #[.bool false] n) 4) :=
 run_make_row' 24 4 (.bool false) 1 Tryz.u24 Tryz.i4 rfl .i64 .i64 n oM oM w
theorem make_by(n:Nat)(h:n<=8388608)(w:Wd):(Instr.makeSlice 22 (nI (n:Int)) (nI (n:Int))).run Tryz.prog w=.ok (.slice (aA w.1.size 0) n n) (w.n (madeCells #[.int .u8 0] n) 5) :=
 run_make_row' 22 5 (.int .u8 0) 1 Tryz.u22 Tryz.i5 rfl .i64 .i64 n oM oM w
namespace Kit
theorem ROwns.form2{w:Wd}{base:Nat}{e:TypeId}{v:Va}{p q:Int}(h:ROwns w base e v (ic [p,q])):∃a c,v=.slice a 2 c:=by
 obtain⟨a,c,h1,_⟩:=h.form;exact⟨a,c,h1⟩
theorem zlt(w:Wd)(o o2:Obj):((w.alloc o).alloc o2).heap[w.1.size]?=some o:=(Below.heap_alloc _ _ _ sI).trans (za2 w o)
theorem zhj(w:Wd)(o o2 o3:Obj):(((w.alloc o).alloc o2).alloc o3).heap[w.1.size]?=some o:=(Below.heap_alloc _ _ _ sO).trans (zlt w o o2)
end Kit
theorem Tryz.u40:Tryz.prog.underlying 40=some (.slice 3):=by kernel_rfl
theorem Tryz.i3:(Tryz.prog.info? 3).map (fun i=>(i.zero,i.size,i.bytes))=some (some (nI 0),1,8):=by kernel_rfl
theorem make22(w:Wd):(Instr.makeSlice 40 (nI 2) (nI 2)).run Tryz.prog w=.ok (.slice (aA w.1.size 0) 2 2) (w.n #[nI 0,nI 0] 3):=by
 obtain⟨i0,hi,aD,aC,aB⟩:=info_parts Tryz.i3;rw[run_make w 40 3 i0 (nI 0) Tryz.u40 hi aD .i64 .i64 2 2 dC dC (by rw[aB];decide) dC,aC];have e1:∀(z:Va) n (l:List Va),List.replicate n z=l->madeCells #[z] n=l.toArray:=fun z n l h=>Array.toList_inj.1 (by rw[toList_madeCells_one,h]);rw[show Value.cells _=#[_]from rfl,e1 _ _ _ rfl];rfl
def zan(k:Int):Int:=if k=0 then 0 else 1
namespace Kit
def AtC(w:Wd)(b:Nat)(T:TypeId)(cs:Array Va):Prop:=w.1[b]?=some (.cells cs T (0,0))
theorem AtC.lt{w:Wd}{b:Nat}{T:TypeId}{cs:Array Va}(h:AtC w b T cs):b<w.1.size:=(Array.getElem?_eq_some_iff.1 h).1
theorem AtC.new(w:Wd)(T:TypeId)(cs:Array Va):AtC (w.alloc (.cells cs T)) w.1.size T cs:=za2 w _
theorem AtC.alloc{w:Wd}{b:Nat}{T:TypeId}{cs:Array Va}(h:AtC w b T cs)(o:Obj):AtC (w.alloc o) b T cs:=(Below.heap_alloc _ _ _ h.lt).trans h
theorem AtC.drew{w:Wd}{b:Nat}{T:TypeId}{cs:Array Va}(h:AtC w b T cs):AtC w.drew b T cs:=h
theorem AtC.below{w w':Wd}{b B:Nat}{T:TypeId}{cs:Array Va}(h:AtC w b T cs)(hb:Below B w w')(hB:b<B):AtC w' b T cs:=(hb.block b hB).trans h
theorem AtC.over{w w':Wd}{b:Nat}{T:TypeId}{cs:Array Va}(h:AtC w b T cs)(hb:Bw w w'):AtC w' b T cs:=h.below hb h.lt
theorem AtC.grown{w w':Wd}{b:Nat}{T:TypeId}{cs:Array Va}{row:Option Nat}(h:AtC w b T cs)(hg:w.grownBy w' row)(hr:row≠some b):AtC w' b T cs:=(hg.block b h.lt (fun e=>hr e.symm)).trans h
theorem AtC.set{w:Wd}{b:Nat}{T:TypeId}{cs:Array Va}(h:AtC w b T cs)(k:Nat)(x:Va):AtC (w.setCell ⟨b,k,none⟩ x) b T (cs.setIfInBounds k x):=heap_setCell_same w b k cs T x h
theorem AtC.other{w:Wd}{b:Nat}{T:TypeId}{cs:Array Va}(h:AtC w b T cs){g k:Nat}(hn:b≠g)(x:Va):AtC (w.setCell ⟨g,k,none⟩ x) b T cs:=(hO_ w ⟨g,k,none⟩ b x hn).trans h
theorem AtC.cell{w:Wd}{b:Nat}{T:TypeId}{cs:Array Va}(h:AtC w b T cs)(k:Nat):w.cell? ⟨b,k,none⟩=cs[k]?:=cell_of_row w b k cs T _ h
theorem AtC.c0{w:Wd}{z:Nat}{T:TypeId}{v:Va}{l:List Va}(h:AtC w z T (v::l).toArray):w.cell? ⟨z,0,none⟩=some v:=h.cell 0
theorem AtC.c1{w:Wd}{z:Nat}{T:TypeId}{a v:Va}{l:List Va}(h:AtC w z T (a::v::l).toArray):w.cell? ⟨z,1,none⟩=some v:=h.cell 1
theorem AtC.c2{w:Wd}{z:Nat}{T:TypeId}{a b v:Va}{l:List Va}(h:AtC w z T (a::b::v::l).toArray):w.cell? ⟨z,2,none⟩=some v:=h.cell 2
theorem AtC.c3{w:Wd}{z:Nat}{T:TypeId}{a b c v:Va}{l:List Va}(h:AtC w z T (a::b::c::v::l).toArray):w.cell? ⟨z,3,none⟩=some v:=h.cell 3
theorem AtC.c4{w:Wd}{z:Nat}{T:TypeId}{a b c d v:Va}{l:List Va}(h:AtC w z T (a::b::c::d::v::l).toArray):w.cell? ⟨z,4,none⟩=some v:=h.cell 4
theorem AtC.c5{w:Wd}{z:Nat}{T:TypeId}{a b c d e v:Va}{l:List Va}(h:AtC w z T (a::b::c::d::e::v::l).toArray):w.cell? ⟨z,5,none⟩=some v:=h.cell 5
theorem AtC.c6{w:Wd}{z:Nat}{T:TypeId}{a b c d e f v:Va}{l:List Va}(h:AtC w z T (a::b::c::d::e::f::v::l).toArray):w.cell? ⟨z,6,none⟩=some v:=h.cell 6
theorem AtC.c7{w:Wd}{z:Nat}{T:TypeId}{a b c d e f g v:Va}{l:List Va}(h:AtC w z T (a::b::c::d::e::f::g::v::l).toArray):w.cell? ⟨z,7,none⟩=some v:=h.cell 7
theorem AtC.c8{w:Wd}{z:Nat}{T:TypeId}{a b c d e f g h v:Va}{l:List Va}(h:AtC w z T (a::b::c::d::e::f::g::h::v::l).toArray):w.cell? ⟨z,8,none⟩=some v:=h.cell 8
theorem AtC.c9{w:Wd}{z:Nat}{T:TypeId}{a b c d e f g h i v:Va}{l:List Va}(h:AtC w z T (a::b::c::d::e::f::g::h::i::v::l).toArray):w.cell? ⟨z,9,none⟩=some v:=h.cell 9
theorem AtC.c10{w:Wd}{z:Nat}{T:TypeId}{a b c d e f g h i j v:Va}{l:List Va}(h:AtC w z T (a::b::c::d::e::f::g::h::i::j::v::l).toArray):w.cell? ⟨z,10,none⟩=some v:=h.cell 10
theorem AtC.four{w:Wd}{b:Nat}{T:TypeId}{p q r s:Va}{l:List Va}(h:AtC w b T (p::q::r::s::l).toArray):w.r4 b p q r s:=⟨h.cell 0,h.cell 1,h.cell 2,h.cell 3⟩
theorem AtC.sev{w:Wd}{z:Nat}{T:TypeId}{a b c d e f g:Va}{l:List Va}(y:AtC w z T (a::b::c::d::e::f::g::l).toArray):w.r7 z a b c d e f g:=⟨y.cell 0,y.cell 1,y.cell 2,y.cell 3,y.cell 4,y.cell 5,y.cell 6⟩
theorem AtC.eig{w:Wd}{z:Nat}{T:TypeId}{a b c d e f g h:Va}{l:List Va}(y:AtC w z T (a::b::c::d::e::f::g::h::l).toArray):w.r8 z a b c d e f g h:=⟨y.cell 0,y.cell 1,y.cell 2,y.cell 3,y.cell 4,y.cell 5,y.cell 6,y.cell 7⟩
theorem AtC.elv{w:Wd}{z:Nat}{T:TypeId}{a b c d e f g h i j k:Va}{l:List Va}(y:AtC w z T (a::b::c::d::e::f::g::h::i::j::k::l).toArray):w.r11 z a b c d e f g h i j k:=⟨y.cell 0,y.cell 1,y.cell 2,y.cell 3,y.cell 4,y.cell 5,y.cell 6,y.cell 7,y.cell 8,y.cell 9,y.cell 10⟩
theorem AtC.frozen{w:Wd}{b:Nat}{T:TypeId}{cs:Array Va}(h:AtC w b T cs)(k:Nat):w.frozen? ⟨b,k,none⟩=false:=frozen_of_row w b k cs T h
theorem AtC.k2{w:World}{z:Nat}{T:TypeId}{a0 a1:Value}{l:List Value}(h:AtC w z T (a0::a1::l).toArray):w.cell? ⟨z,0,none⟩=some a0/\w.cell? ⟨z,1,none⟩=some a1:=⟨h.cell 0,h.cell 1⟩
theorem AtC.k3{w:World}{z:Nat}{T:TypeId}{a0 a1 a2:Value}{l:List Value}(h:AtC w z T (a0::a1::a2::l).toArray):w.cell? ⟨z,0,none⟩=some a0/\w.cell? ⟨z,1,none⟩=some a1/\w.cell? ⟨z,2,none⟩=some a2:=⟨h.cell 0,h.cell 1,h.cell 2⟩
theorem AtC.k4{w:World}{z:Nat}{T:TypeId}{a0 a1 a2 a3:Value}{l:List Value}(h:AtC w z T (a0::a1::a2::a3::l).toArray):w.cell? ⟨z,0,none⟩=some a0/\w.cell? ⟨z,1,none⟩=some a1/\w.cell? ⟨z,2,none⟩=some a2/\w.cell? ⟨z,3,none⟩=some a3:=⟨h.cell 0,h.cell 1,h.cell 2,h.cell 3⟩
theorem AtC.k5{w:World}{z:Nat}{T:TypeId}{a0 a1 a2 a3 a4:Value}{l:List Value}(h:AtC w z T (a0::a1::a2::a3::a4::l).toArray):w.cell? ⟨z,0,none⟩=some a0/\w.cell? ⟨z,1,none⟩=some a1/\w.cell? ⟨z,2,none⟩=some a2/\w.cell? ⟨z,3,none⟩=some a3/\w.cell? ⟨z,4,none⟩=some a4:=⟨h.cell 0,h.cell 1,h.cell 2,h.cell 3,h.cell 4⟩
theorem AtC.k6{w:World}{z:Nat}{T:TypeId}{a0 a1 a2 a3 a4 a5:Value}{l:List Value}(h:AtC w z T (a0::a1::a2::a3::a4::a5::l).toArray):w.cell? ⟨z,0,none⟩=some a0/\w.cell? ⟨z,1,none⟩=some a1/\w.cell? ⟨z,2,none⟩=some a2/\w.cell? ⟨z,3,none⟩=some a3/\w.cell? ⟨z,4,none⟩=some a4/\w.cell? ⟨z,5,none⟩=some a5:=⟨h.cell 0,h.cell 1,h.cell 2,h.cell 3,h.cell 4,h.cell 5⟩
theorem AtC.k7{w:World}{z:Nat}{T:TypeId}{a0 a1 a2 a3 a4 a5 a6:Value}{l:List Value}(h:AtC w z T (a0::a1::a2::a3::a4::a5::a6::l).toArray):w.cell? ⟨z,0,none⟩=some a0/\w.cell? ⟨z,1,none⟩=some a1/\w.cell? ⟨z,2,none⟩=some a2/\w.cell? ⟨z,3,none⟩=some a3/\w.cell? ⟨z,4,none⟩=some a4/\w.cell? ⟨z,5,none⟩=some a5/\w.cell? ⟨z,6,none⟩=some a6:=⟨h.cell 0,h.cell 1,h.cell 2,h.cell 3,h.cell 4,h.cell 5,h.cell 6⟩
theorem AtC.k8{w:World}{z:Nat}{T:TypeId}{a0 a1 a2 a3 a4 a5 a6 a7:Value}{l:List Value}(h:AtC w z T (a0::a1::a2::a3::a4::a5::a6::a7::l).toArray):w.cell? ⟨z,0,none⟩=some a0/\w.cell? ⟨z,1,none⟩=some a1/\w.cell? ⟨z,2,none⟩=some a2/\w.cell? ⟨z,3,none⟩=some a3/\w.cell? ⟨z,4,none⟩=some a4/\w.cell? ⟨z,5,none⟩=some a5/\w.cell? ⟨z,6,none⟩=some a6/\w.cell? ⟨z,7,none⟩=some a7:=⟨h.cell 0,h.cell 1,h.cell 2,h.cell 3,h.cell 4,h.cell 5,h.cell 6,h.cell 7⟩
theorem AtC.k9{w:World}{z:Nat}{T:TypeId}{a0 a1 a2 a3 a4 a5 a6 a7 a8:Value}{l:List Value}(h:AtC w z T (a0::a1::a2::a3::a4::a5::a6::a7::a8::l).toArray):w.cell? ⟨z,0,none⟩=some a0/\w.cell? ⟨z,1,none⟩=some a1/\w.cell? ⟨z,2,none⟩=some a2/\w.cell? ⟨z,3,none⟩=some a3/\w.cell? ⟨z,4,none⟩=some a4/\w.cell? ⟨z,5,none⟩=some a5/\w.cell? ⟨z,6,none⟩=some a6/\w.cell? ⟨z,7,none⟩=some a7/\w.cell? ⟨z,8,none⟩=some a8:=⟨h.cell 0,h.cell 1,h.cell 2,h.cell 3,h.cell 4,h.cell 5,h.cell 6,h.cell 7,h.cell 8⟩
theorem AtC.k10{w:World}{z:Nat}{T:TypeId}{a0 a1 a2 a3 a4 a5 a6 a7 a8 a9:Value}{l:List Value}(h:AtC w z T (a0::a1::a2::a3::a4::a5::a6::a7::a8::a9::l).toArray):w.cell? ⟨z,0,none⟩=some a0/\w.cell? ⟨z,1,none⟩=some a1/\w.cell? ⟨z,2,none⟩=some a2/\w.cell? ⟨z,3,none⟩=some a3/\w.cell? ⟨z,4,none⟩=some a4/\w.cell? ⟨z,5,none⟩=some a5/\w.cell? ⟨z,6,none⟩=some a6/\w.cell? ⟨z,7,none⟩=some a7/\w.cell? ⟨z,8,none⟩=some a8/\w.cell? ⟨z,9,none⟩=some a9:=⟨h.cell 0,h.cell 1,h.cell 2,h.cell 3,h.cell 4,h.cell 5,h.cell 6,h.cell 7,h.cell 8,h.cell 9⟩
theorem AtC.k11{w:World}{z:Nat}{T:TypeId}{a0 a1 a2 a3 a4 a5 a6 a7 a8 a9 a10:Value}{l:List Value}(h:AtC w z T (a0::a1::a2::a3::a4::a5::a6::a7::a8::a9::a10::l).toArray):w.cell? ⟨z,0,none⟩=some a0/\w.cell? ⟨z,1,none⟩=some a1/\w.cell? ⟨z,2,none⟩=some a2/\w.cell? ⟨z,3,none⟩=some a3/\w.cell? ⟨z,4,none⟩=some a4/\w.cell? ⟨z,5,none⟩=some a5/\w.cell? ⟨z,6,none⟩=some a6/\w.cell? ⟨z,7,none⟩=some a7/\w.cell? ⟨z,8,none⟩=some a8/\w.cell? ⟨z,9,none⟩=some a9/\w.cell? ⟨z,10,none⟩=some a10:=⟨h.cell 0,h.cell 1,h.cell 2,h.cell 3,h.cell 4,h.cell 5,h.cell 6,h.cell 7,h.cell 8,h.cell 9,h.cell 10⟩
theorem AtC.f2{w:World}{b:Nat}{T:TypeId}{cs:Array Value}(h:AtC w b T cs):w.frozen? ⟨b,0,none⟩=false/\w.frozen? ⟨b,1,none⟩=false:=⟨h.frozen 0,h.frozen 1⟩
theorem AtC.f3{w:World}{b:Nat}{T:TypeId}{cs:Array Value}(h:AtC w b T cs):w.frozen? ⟨b,0,none⟩=false/\w.frozen? ⟨b,1,none⟩=false/\w.frozen? ⟨b,2,none⟩=false:=⟨h.frozen 0,h.frozen 1,h.frozen 2⟩
theorem AtC.f4{w:World}{b:Nat}{T:TypeId}{cs:Array Value}(h:AtC w b T cs):w.frozen? ⟨b,0,none⟩=false/\w.frozen? ⟨b,1,none⟩=false/\w.frozen? ⟨b,2,none⟩=false/\w.frozen? ⟨b,3,none⟩=false:=⟨h.frozen 0,h.frozen 1,h.frozen 2,h.frozen 3⟩
theorem AtC.f5{w:World}{b:Nat}{T:TypeId}{cs:Array Value}(h:AtC w b T cs):w.frozen? ⟨b,0,none⟩=false/\w.frozen? ⟨b,1,none⟩=false/\w.frozen? ⟨b,2,none⟩=false/\w.frozen? ⟨b,3,none⟩=false/\w.frozen? ⟨b,4,none⟩=false:=⟨h.frozen 0,h.frozen 1,h.frozen 2,h.frozen 3,h.frozen 4⟩
theorem AtC.f7{w:World}{b:Nat}{T:TypeId}{cs:Array Value}(h:AtC w b T cs):w.frozen? ⟨b,0,none⟩=false/\w.frozen? ⟨b,1,none⟩=false/\w.frozen? ⟨b,2,none⟩=false/\w.frozen? ⟨b,3,none⟩=false/\w.frozen? ⟨b,4,none⟩=false/\w.frozen? ⟨b,5,none⟩=false/\w.frozen? ⟨b,6,none⟩=false:=⟨h.frozen 0,h.frozen 1,h.frozen 2,h.frozen 3,h.frozen 4,h.frozen 5,h.frozen 6⟩
theorem AtC.f8{w:World}{b:Nat}{T:TypeId}{cs:Array Value}(h:AtC w b T cs):w.frozen? ⟨b,0,none⟩=false/\w.frozen? ⟨b,1,none⟩=false/\w.frozen? ⟨b,2,none⟩=false/\w.frozen? ⟨b,3,none⟩=false/\w.frozen? ⟨b,4,none⟩=false/\w.frozen? ⟨b,5,none⟩=false/\w.frozen? ⟨b,6,none⟩=false/\w.frozen? ⟨b,7,none⟩=false:=⟨h.frozen 0,h.frozen 1,h.frozen 2,h.frozen 3,h.frozen 4,h.frozen 5,h.frozen 6,h.frozen 7⟩
theorem AtC.f11{w:World}{b:Nat}{T:TypeId}{cs:Array Value}(h:AtC w b T cs):w.frozen? ⟨b,0,none⟩=false/\w.frozen? ⟨b,1,none⟩=false/\w.frozen? ⟨b,2,none⟩=false/\w.frozen? ⟨b,3,none⟩=false/\w.frozen? ⟨b,4,none⟩=false/\w.frozen? ⟨b,5,none⟩=false/\w.frozen? ⟨b,6,none⟩=false/\w.frozen? ⟨b,7,none⟩=false/\w.frozen? ⟨b,8,none⟩=false/\w.frozen? ⟨b,9,none⟩=false/\w.frozen? ⟨b,10,none⟩=false:=⟨h.frozen 0,h.frozen 1,h.frozen 2,h.frozen 3,h.frozen 4,h.frozen 5,h.frozen 6,h.frozen 7,h.frozen 8,h.frozen 9,h.frozen 10⟩
theorem AtC.two{w:Wd}{b:Nat}{T:TypeId}{x y:Va}(h:AtC w b T #[x,y]):w.cell? ⟨b,0,none⟩=some x/\w.cell? ⟨b,1,none⟩=some y/\b<w.1.size:=⟨h.cell 0,h.cell 1,h.lt⟩
theorem AtC.three{w:Wd}{b:Nat}{T:TypeId}{x y z:Va}(h:AtC w b T #[x,y,z]):w.cell? ⟨b,0,none⟩=some x/\w.cell? ⟨b,1,none⟩=some y/\w.cell? ⟨b,2,none⟩=some z/\b<w.1.size:=⟨h.cell 0,h.cell 1,h.cell 2,h.lt⟩
theorem AtC.frz{w:Wd}{b:Nat}{T:TypeId}{cs:Array Va}(h:AtC w b T cs):w.frozen? ⟨b,0,none⟩=false/\w.frozen? ⟨b,1,none⟩=false/\w.frozen? ⟨b,2,none⟩=false:=⟨h.frozen 0,h.frozen 1,h.frozen 2⟩
end Kit
namespace Kit
def AtP(T:TypeId)(w:Wd)(b:Nat)(u v:Va):Prop:=w.1[b]?=some (.cells #[u,v] T (0,0))
theorem AtP.lt{T:TypeId}{w:Wd}{b:Nat}{u v:Va}(h:AtP T w b u v):b<w.1.size:=(Array.getElem?_eq_some_iff.1 h).1
theorem AtP.new(T:TypeId)(w:Wd)(u v:Va):AtP T (w.alloc (.cells #[u,v] T)) w.1.size u v:=za2 w _
theorem AtP.alloc{T:TypeId}{w:Wd}{b:Nat}{u v:Va}(h:AtP T w b u v)(o:Obj):AtP T (w.alloc o) b u v:=(Below.heap_alloc _ _ _ h.lt).trans h
theorem AtP.below{T:TypeId}{w w':Wd}{b B:Nat}{u v:Va}(h:AtP T w b u v)(hb:Below B w w')(hB:b<B):AtP T w' b u v:=(hb.block b hB).trans h
theorem AtP.grown{T:TypeId}{w w':Wd}{b:Nat}{u v:Va}{row:Option Nat}(h:AtP T w b u v)(hg:w.grownBy w' row)(hr:row≠some b):AtP T w' b u v:=(hg.block b h.lt (fun e=>hr e.symm)).trans h
theorem AtP.cells{T:TypeId}{w:Wd}{b:Nat}{u v:Va}(h:AtP T w b u v):w.cell? ⟨b,0,none⟩=some u/\w.cell? ⟨b,1,none⟩=some v:=by
 have h':w.1[b]?=some (.cells #[u,v] T (0,0)):=h;exact⟨by simp[World.cell?,h'],by simp[World.cell?,h']⟩
theorem AtP.frozen{T:TypeId}{w:Wd}{b:Nat}{u v:Va}(h:AtP T w b u v):w.frozen? ⟨b,0,none⟩=false/\w.frozen? ⟨b,1,none⟩=false:=by
 have h':w.1[b]?=some (.cells #[u,v] T (0,0)):=h;exact⟨by simp[World.frozen?,h'],by simp[World.frozen?,h']⟩
theorem AtP.set_other{T:TypeId}{w:Wd}{b:Nat}{u v:Va}(h:AtP T w b u v){B j:Nat}(hne:b≠B)(x:Va):AtP T (w.setCell ⟨B,j,none⟩ x) b u v:=(hO_ w ⟨B,j,none⟩ b x hne).trans h
theorem AtP.set0{T:TypeId}{w:Wd}{b:Nat}{u v:Va}(h:AtP T w b u v)(x:Va):AtP T (w.setCell ⟨b,0,none⟩ x) b x v:=heap_setCell_same w b 0 _ T x h
theorem AtP.set1{T:TypeId}{w:Wd}{b:Nat}{u v:Va}(h:AtP T w b u v)(x:Va):AtP T (w.setCell ⟨b,1,none⟩ x) b u x:=heap_setCell_same w b 1 _ T x h
theorem AtP.drew{T:TypeId}{w:Wd}{b:Nat}{u v:Va}(h:AtP T w b u v):AtP T w.drew b u v:=h
structure Two(w:Wd)(base:Nat)(u v:Va)(xs ys:List Bool):Prop where
 a:ROwns w base 4 u (fc xs)
 b:ROwns w base 4 v (fc ys)
 ne:∀k,u.ownBlock=some k->v.ownBlock≠some k
namespace Two
variable {w w' : World} {base : Nat} {u v : Value} {xs ys : List Bool}
theorem alloc(h:Two w base u v xs ys)(o:Obj):Two (w.alloc o) base u v xs ys:=⟨h.a.alloc o,h.b.alloc o,h.ne⟩
theorem drew(h:Two w base u v xs ys):Two w.drew base u v xs ys:=⟨h.a.drew,h.b.drew,h.ne⟩
theorem below{B:Nat}(h:Two w base u v xs ys)(hb:Below B w w')(hB:w.1.size<=B):Two w' base u v xs ys:=⟨h.a.below hb hB,h.b.below hb hB,h.ne⟩
theorem base_le{base':Nat}(h:Two w base u v xs ys)(hb:base'<=base):Two w base' u v xs ys:=⟨h.a.base_le hb,h.b.base_le hb,h.ne⟩
theorem set_other(h:Two w base u v xs ys){b j:Nat}(hp:b<base)(x:Value):Two (w.setCell ⟨b,j,none⟩ x) base u v xs ys:=⟨h.a.setCell_other hp x,h.b.setCell_other hp x,h.ne⟩
theorem form(h:Two w base u v xs ys):∃a1 c1 a2 c2,u=.slice a1 xs.length c1/\v=.slice a2 ys.length c2:=by
 obtain⟨a1,c1,e1⟩:=h.a.rfl.form;obtain⟨a2,c2,e2⟩:=h.b.rfl.form;exact⟨a1,c1,a2,c2,e1,e2⟩
theorem nil(w:World)(base:Nat):Two w base (.slice none 0 0) (.slice none 0 0) [] []:=⟨ROwns.nil _ _ _,ROwns.nil _ _ _,fun k h=>by cases h⟩
end Two
structure G2(w w':World)(r1 r2:Option Nat):Prop where
 os:w'.os=w.os
 tape:w'.tape=w.tape
 output:w'.output=w.output
 size:w.1.size<=w'.1.size
 block:∀k,k<w.1.size->r1≠some k->r2≠some k->w'.1[k]?=w.1[k]?
theorem AtP.g2{T:TypeId}{w w':World}{b:Nat}{u v:Value}{r1 r2:Option Nat}(h:AtP T w b u v)(hg:G2 w w' r1 r2)(h1:r1≠some b)(h2:r2≠some b):AtP T w' b u v:=(hg.block b h.lt h1 h2).trans h
theorem Two.g2{w w':World}{base:Nat}{u v:Value}{xs ys:List Bool}{r1 r2:Option Nat}(h:Two w base u v xs ys)(hg:G2 w w' r1 r2)(h1:∀k,(u.ownBlock=some k\/v.ownBlock=some k)->r1≠some k/\r2≠some k):Two w' base u v xs ys :=
 ⟨h.a.of_heap fun k hk=>hg.block k (h.a.lt k hk).2 (h1 k (.inl hk)).1 (h1 k (.inl hk)).2,h.b.of_heap fun k hk=>hg.block k (h.b.lt k hk).2 (h1 k (.inr hk)).1 (h1 k (.inr hk)).2,h.ne⟩
end Kit
namespace Kit
def oneB(b:UInt8):ByteArray:=⟨#[b]⟩
theorem ze1(b:UInt8):(oneB b).size=1:=rfl
def accB(l:List UInt8):ByteArray:=⟨l.toArray⟩
theorem ze2(l:List UInt8):(accB l).size=l.length:=by simp[accB,ByteArray.size]
end Kit
namespace Kit
theorem RInts.alloc{w:Wd}{v:Va}{xs:List Int}(h:RInts w v xs)(o:Obj):RInts (w.alloc o) v xs:=h.below ((bF _ w).alloc nR o) nR
theorem RInts.form{w:Wd}{v:Va}{xs:List Int}(h:RInts w v xs):∃a c,v=.slice a xs.length c:=by
 obtain⟨a,c,h,_⟩:=h;exact⟨a,c,h⟩
def AtI(w:Wd)(b:Nat)(k l:Int)(v:Va):Prop:=w.1[b]?=some (.cells #[nI k,nI l,v] 59 (0,0))
theorem AtI.lt{w:Wd}{b:Nat}{k l:Int}{v:Va}(h:AtI w b k l v):b<w.1.size:=(Array.getElem?_eq_some_iff.1 h).1
theorem AtI.new(w:Wd)(k l:Int)(v:Va):AtI (w.n #[nI k,nI l,v] 59) w.1.size k l v:=za2 w _
theorem AtI.alloc{w:Wd}{b:Nat}{k l:Int}{v:Va}(h:AtI w b k l v)(o:Obj):AtI (w.alloc o) b k l v:=(Below.heap_alloc _ _ _ h.lt).trans h
theorem AtI.below{w w':Wd}{b B:Nat}{k l:Int}{v:Va}(h:AtI w b k l v)(hb:Below B w w')(hB:b<B):AtI w' b k l v:=(hb.block b hB).trans h
theorem AtI.grown{w w':Wd}{b:Nat}{k l:Int}{v:Va}{row:Option Nat}(h:AtI w b k l v)(hg:w.grownBy w' row)(hr:row≠some b):AtI w' b k l v:=(hg.block b h.lt (fun e=>hr e.symm)).trans h
theorem AtI.cells{w:Wd}{b:Nat}{k l:Int}{v:Va}(h:AtI w b k l v):
  w.cell? ⟨b,0,none⟩=some (nI k)/\w.cell? ⟨b,1,none⟩=some (nI l)/\w.cell? ⟨b,2,none⟩=some v/\b<w.1.size:=by
 have h':w.1[b]?=some (.cells #[nI k,nI l,v] 59 (0,0)):=h;exact⟨by simp[World.cell?,h'],by simp[World.cell?,h'],by simp[World.cell?,h'],h.lt⟩
end Kit
theorem zbk{w1:Wd}{b:Nat}(K:w1.1[b]?=some (.cells #[nI 0,nI 0,.slice none 0 0] 59 (0,0))):
  w1.cell? ⟨b,0,none⟩=some (nI 0)/\w1.cell? ⟨b,1,none⟩=some (nI 0)/\w1.cell? ⟨b,2,none⟩=some (.slice none 0 0)/\w1.frozen? ⟨b,0,none⟩=false/\w1.frozen? ⟨b,1,none⟩=false/\w1.frozen? ⟨b,2,none⟩=false/\b<w1.1.size:=by
 refine⟨by simp[World.cell?,K],by simp[World.cell?,K],by simp[World.cell?,K],by simp[World.frozen?,K],by simp[World.frozen?,K],by simp[World.frozen?,K],(Array.getElem?_eq_some_iff.1 K).1⟩
theorem zit(z:Va)(n:Nat)(l:List Va)(h:List.replicate n z=l):madeCells #[z] n=l.toArray:=Array.toList_inj.1 (by rw[toList_madeCells_one,h])
def fl16:Array Va:=(fc (List.replicate 16 false)).toArray
theorem make16(w:Wd):(Instr.makeSlice 24 (nI 16) (nI 16)).run Tryz.prog w=.ok (.slice (aA w.1.size 0) 16 16) (w.n fl16 4):=by
 have:=zis 16 dC w;rw[zit _ 16 (fc (List.replicate 16 false)) (by simp[fc])]at this;exact this
theorem make8(w:Wd):(Instr.makeSlice 24 (nI 8) (nI 8)).run Tryz.prog w=.ok (.slice (aA w.1.size 0) 8 8) (w.n #[.bool false,.bool false,.bool false,.bool false,.bool false,.bool false,.bool false,.bool false] 4):=by
 have:=zis 8 dC w;rw[zit _ 8 [.bool false,.bool false,.bool false,.bool false,.bool false,.bool false,.bool false,.bool false] rfl]at this;exact this
def newX:List Bool:=List.replicate 16 false
def newY:List Bool:=true::List.replicate 7 false
theorem zd3(W:Wd)(base gx gy:Nat)(h1:W.1[gx]?=some (.cells fl16 4 (0,0)))(h2:W.1[gy]?=some (.cells #[.bool true,.bool false,.bool false,.bool false,.bool false,.bool false,.bool false,.bool false] 4 (0,0)))(hx:base<=gx)(hy:base<=gy)(hne:gx≠gy):
  Two W base (.slice (aA gx 0) 16 16) (.slice (aA gy 0) 8 8) newX newY:=by
 refine⟨⟨by simp[fc,newX],.inr ⟨gx,16,_,by simp[fc,newX],hx,h1,?_,?_,?_,?_⟩⟩,⟨by simp[fc,newY],.inr ⟨gy,8,_,by simp[fc,newY],hy,h2,?_,?_,?_,?_⟩⟩,fun k e1 e2=>?_⟩
 ·simp[fc,newX]
 ·unfold maxLen;decide
 ·simp[fl16,fc]
 ·simp[fl16,fc,newX]
 ·simp[fc,newY]
 ·unfold maxLen;decide
 ·simp
 ·simp[fc,newY]
 simp only[Value.ownBlock,oJ]at e1 e2;omega
theorem heap4(w:Wd)(a b c d:Obj):((((w.alloc a).alloc b).alloc c).alloc d).drew.heap[w.1.size+1]?=some b/\((((w.alloc a).alloc b).alloc c).alloc d).drew.heap[w.1.size+1+1]?=some c/\((((w.alloc a).alloc b).alloc c).alloc d).drew.heap[w.1.size+1+1+1]?=some d:=by
 have e1:=za2 (w.alloc a) b;have e2:=za2 ((w.alloc a).alloc b) c;have e3:=za2 (((w.alloc a).alloc b).alloc c) d;rw[wA_]at e1;rw[wA_,wA_]at e2;rw[wA_,wA_,wA_]at e3;exact⟨((Below.heap_alloc _ _ _ sI).trans ((Below.heap_alloc _ _ _ sI).trans e1)),(Below.heap_alloc _ _ _ sI).trans e2,e3⟩
def okB(n m:Nat):Bool:=decide (n=16)&&decide (m=8)
theorem okB_true{n m:Nat}(h:okB n m=true):n=16/\m=8:=by simpa[okB]using h
namespace Kit
end Kit
namespace Kit
abbrev V3:=Value×Value×Value
def f3:List V3->List Va
 | []=>[]
 | t::r=>t.1::t.2.1::t.2.2::f3 r
theorem zcp(ts:List V3):(f3 ts).length=ts.length*3:=by
 induction ts with
 | nil=>rfl
 | cons s r ih=>simp[f3,ih];omega
theorem zlw(a b:List V3):f3 (a++b)=f3 a++f3 b:=by
 induction a with
 | nil=>rfl
 | cons s r ih=>simp[f3,ih]
theorem f3_at(ts:List V3)(j:Nat)(h:j<ts.length):(f3 ts)[j*3]?=some ts[j].1/\(f3 ts)[j*3+1]?=some ts[j].2.1/\(f3 ts)[j*3+2]?=some ts[j].2.2:=by
 induction ts generalizing j with
 | nil=>simp at h
 | cons s r ih =>
  cases j with
  | zero=>exact⟨rfl,rfl,rfl⟩
  | succ j =>
   rw[show(j+1)*3=j*3+1+1+1 by omega,show j*3+1+1+1+1=j*3+1+1+1+1 from rfl,show j*3+1+1+1+2=j*3+2+1+1+1 by omega];simp only[f3,List.getElem?_cons_succ,gC];exact ih j uI
theorem f3_set0(ts:List V3)(j:Nat)(x:Va)(h:j<ts.length):(f3 ts).set (j*3) x=f3 (ts.set j (x,ts[j].2.1,ts[j].2.2)):=by
 induction ts generalizing j with
 | nil=>simp at h
 | cons s r ih =>
  cases j with
  | zero=>rfl
  | succ j =>
   rw[show(j+1)*3=j*3+1+1+1 by omega];simp only[f3,cS,gC];rw[ih j uI]
theorem f3_set1(ts:List V3)(j:Nat)(x:Va)(h:j<ts.length):(f3 ts).set (j*3+1) x=f3 (ts.set j (ts[j].1,x,ts[j].2.2)):=by
 induction ts generalizing j with
 | nil=>simp at h
 | cons s r ih =>
  cases j with
  | zero=>rfl
  | succ j =>
   rw[show(j+1)*3+1=j*3+1+1+1+1 by omega];simp only[f3,cS,gC];rw[ih j uI]
theorem f3_set2(ts:List V3)(j:Nat)(x:Va)(h:j<ts.length):(f3 ts).set (j*3+2) x=f3 (ts.set j (ts[j].1,ts[j].2.1,x)):=by
 induction ts generalizing j with
 | nil=>simp at h
 | cons s r ih =>
  cases j with
  | zero=>rfl
  | succ j =>
   rw[show(j+1)*3+2=j*3+2+1+1+1 by omega];simp only[f3,cS,gC];rw[ih j uI]
def TOwns(w:Wd)(e:TypeId)(v:Va)(ts:List V3):Prop:=w.ownsRow 0 e 3 v ts.length (f3 ts)
theorem TOwns.lt{w:Wd}{e:TypeId}{v:Va}{l:List V3}(h:TOwns w e v l):∀k,v.ownBlock=some k->k<w.1.size:=fun k hk=>(World.ownsRow.lt h k hk).2
theorem TOwns.of_heap{w w':Wd}{e:TypeId}{v:Va}{l:List V3}(h:TOwns w e v l)(hh:∀k,v.ownBlock=some k->w'.1[k]?=w.1[k]?):TOwns w' e v l:=by
 exact cQ54
theorem TOwns.nil(w:Wd)(e:TypeId):TOwns w e (.slice none 0 0) []:=World.ownsRow_nil _ _ _ _
theorem TOwns.lit(w:Wd)(e:TypeId)(cs:Array Va)(ts:List V3)(hc:cs.toList=f3 ts)(hm:ts.length<=maxLen):TOwns (w.alloc (.cells cs e)) e (.slice (aA w.1.size 0) ts.length ts.length) ts:=by
 have h1:cs.size=ts.length*3:=by rw[←Array.length_toList,hc,zcp]
 have:=World.ownsRow_lit (base:=0) (e:=e) (size:=3) w cs ts.length (zL _) hm h1;unfold TOwns
 rwa[hc]at this
theorem TOwns.form{w:Wd}{e:TypeId}{v:Va}{l:List V3}(h:TOwns w e v l):∃a cap,v=.slice a l.length cap/\l.length<=cap/\(a=none->l=[]):=by
 rcases h.2 with⟨rfl,h0⟩| ⟨g,cap,cur,rfl,_,_,hc,_⟩
 ·exact cQ142
 exact⟨_,_,rfl,hc,fun h=>by cases h⟩
theorem TOwns.at{w:Wd}{e:TypeId}{v:Va}{l:List V3}(h:TOwns w e v l)(k:Nat)(hk:k<l.length):
  ∃g cap,v=.slice (aA g 0) l.length cap/\w.cell? ⟨g,k*3,none⟩=some l[k].1/\w.cell? ⟨g,k*3+1,none⟩=some l[k].2.1/\w.cell? ⟨g,k*3+2,none⟩=some l[k].2.2/\(∀j,w.frozen? ⟨g,j,none⟩=false)/\g<w.1.size/\l.length<=cap:=by
 have aB:=h.lt;rcases h.2 with⟨h1,h0⟩| ⟨g,cap,cur,rfl,h2,h3,h4,h5,h6,h7⟩
 ·omega
 have h':w.ownsRow 0 e 3 (.slice (aA g 0) l.length cap) l.length (f3 l):=h;exact⟨g,cap,rfl,(h'.cellAt _ oM).trans (f3_at l k hk).1,(h'.cellAt _ oM).trans (f3_at l k hk).2.1,(h'.cellAt _ oM).trans (f3_at l k hk).2.2,h'.frozenAt,aB g rfl,h4⟩
theorem TOwns.set0{w:Wd}{g cap:Nat}{e:TypeId}{l:List V3}(h:TOwns w e (.slice (aA g 0) l.length cap) l)(k:Nat)(hk:k<l.length)(x:Va):
  TOwns (w.setCell ⟨g,k*3,none⟩ x) e (.slice (aA g 0) l.length cap) (l.set k (x,l[k].2.1,l[k].2.2)):=by
 unfold TOwns;rw[lS,←f3_set0 l k x hk];exact(World.ownsRow.stored h (k*3) x).1
theorem TOwns.set1{w:Wd}{g cap:Nat}{e:TypeId}{l:List V3}(h:TOwns w e (.slice (aA g 0) l.length cap) l)(k:Nat)(hk:k<l.length)(x:Va):
  TOwns (w.setCell ⟨g,k*3+1,none⟩ x) e (.slice (aA g 0) l.length cap) (l.set k (l[k].1,x,l[k].2.2)):=by
 unfold TOwns;rw[lS,←f3_set1 l k x hk];exact(World.ownsRow.stored h (k*3+1) x).1
theorem TOwns.set2{w:Wd}{g cap:Nat}{e:TypeId}{l:List V3}(h:TOwns w e (.slice (aA g 0) l.length cap) l)(k:Nat)(hk:k<l.length)(x:Va):
  TOwns (w.setCell ⟨g,k*3+2,none⟩ x) e (.slice (aA g 0) l.length cap) (l.set k (l[k].1,l[k].2.1,x)):=by
 unfold TOwns;rw[lS,←f3_set2 l k x hk];exact(World.ownsRow.stored h (k*3+2) x).1
theorem TOwns.set{w:Wd}{g cap:Nat}{e:TypeId}{l:List V3}(h:TOwns w e (.slice (aA g 0) l.length cap) l)(k:Nat)(hk:k<l.length)(x y z:Va):
  TOwns (((w.setCell ⟨g,k*3,none⟩ x).setCell ⟨g,k*3+1,none⟩ y).setCell ⟨g,k*3+2,none⟩ z) e (.slice (aA g 0) l.length cap) (l.set k (x,y,z)):=by
 have h1:=h.set0 k hk x;have h2:TOwns (w.setCell ⟨g,k*3,none⟩ x) e (.slice (aA g 0) (l.set k (x,l[k].2.1,l[k].2.2)).length cap) (l.set k (x,l[k].2.1,l[k].2.2)):=by rw[lS];exact h1
 have h3:=h2.set1 k uH y;simp only[lS,gS_,List.set_set]at h3;have h4:TOwns ((w.setCell ⟨g,k*3,none⟩ x).setCell ⟨g,k*3+1,none⟩ y) e (.slice (aA g 0) (l.set k (x,y,l[k].2.2)).length cap) (l.set k (x,y,l[k].2.2)):=by rw[lS];exact h3
 have h5:=h4.set2 k uH z;simp only[lS,gS_,List.set_set]at h5;exact h5
structure Chg(S:Nat->Prop)(w w':Wd):Prop where
 os:w'.os=w.os
 tape:w'.tape=w.tape
 output:w'.output=w.output
 size:w.1.size<=w'.1.size
 block:∀k,k<w.1.size->¬S k->w'.1[k]?=w.1[k]?
theorem Chg.refl(S:Nat->Prop)(w:Wd):Chg S w w:=⟨rfl,rfl,rfl,Nat.le_refl _,fun _ _ _=>rfl⟩
theorem Chg.trans{S:Nat->Prop}{a b c:Wd}(h:Chg S a b)(k:Chg S b c):Chg S a c :=
 ⟨k.os.trans h.os,k.tape.trans h.tape,k.output.trans h.output,lT h.size k.size,fun i hi hr=>(k.block i (by have:=h.size;omega) hr).trans (h.block i hi hr)⟩
theorem Chg.mono{S S':Nat->Prop}{a b:Wd}(h:Chg S a b)(hs:∀k,S k->S' k):Chg S' a b:=⟨h.os,h.tape,h.output,h.size,fun k hk hn=>h.block k hk fun e=>hn (hs k e)⟩
theorem Chg.of_below{S:Nat->Prop}{a b:Wd}(h:Bw a b):Chg S a b:=⟨h.os,h.tape,h.output,h.size,fun k hk _=>h.block k hk⟩
theorem Chg.of_grown{S:Nat->Prop}{a b:Wd}{row:Option Nat}(h:a.grownBy b row)(hr:∀k,row=some k->S k):Chg S a b:=⟨h.os,h.tape,h.output,h.size,fun k hk hn=>h.block k hk fun e=>hn (hr k e.symm)⟩
theorem Chg.below{S:Nat->Prop}{a b:Wd}{B:Nat}(h:Chg S a b)(hB:B<=a.heap.size)(hs:∀k,S k->B<=k):Below B a b :=
 ⟨h.os,h.tape,h.output,h.size,fun k hk=>h.block k oM fun e=>by have:=hs k e;omega⟩
theorem Chg.setCell{S:Nat->Prop}{a b:Wd}(h:Chg S a b){g j:Nat}(hg:S g)(x:Va):Chg S a (b.setCell ⟨g,j,none⟩ x) :=
 h.trans ⟨rfl,rfl,rfl,sI,fun k _ hn=>hO_ b ⟨g,j,none⟩ k x (fun e=>hn (by simp at e;subst e;exact hg))⟩
structure Kd(α:Type) where
 T:TypeId
 p:V3->Value
 O:Wd->V3->α->Prop
 R:Wd->V3->α->Prop
 heap:∀{w w':Wd}{t:V3}{x:α},O w t x->(∀k,(p t).ownBlock=some k->w'.1[k]?=w.1[k]?)->O w' t x
 lt:∀{w:Wd}{t:V3}{x:α},O w t x->∀k,(p t).ownBlock=some k->k<w.1.size
 rd:∀{w:Wd}{t:V3}{x:α},O w t x->R w t x
 bel:∀{w w':Wd}{t:V3}{x:α}{B:Nat},R w t x->Below B w w'->w.1.size<=B->R w' t x
structure GO{α:Type}(K:Kd α)(w:Wd)(S:Nat->Prop)(v:Va)(ts:List V3)(xs:List α):Prop where
 len:ts.length=xs.length
 row:TOwns w K.T v ts
 inn:∀(j:Nat)(h:j<ts.length)(h':j<xs.length),K.O w ts[j] xs[j]
 sep:∀(i j:Nat)(hi:i<ts.length)(hj:j<ts.length),i≠j->∀k,(K.p ts[i]).ownBlock=some k->(K.p ts[j]).ownBlock≠some k
 out:∀(j:Nat)(h:j<ts.length)(k:Nat),(K.p ts[j]).ownBlock=some k->v.ownBlock≠some k
 so:∀k,v.ownBlock=some k->S k
 si:∀(j:Nat)(h:j<ts.length)(k:Nat),(K.p ts[j]).ownBlock=some k->S k
namespace GO
variable {α : Type} {K : Kd α} {w w' : World} {S S' : Nat -> Prop} {v : Value} {ts : List V3} {xs : List α}
theorem of_heap(h:GO K w S v ts xs)(hh:∀k,S k->k<w.1.size->w'.1[k]?=w.1[k]?):GO K w' S v ts xs :=
 ⟨h.len,h.row.of_heap fun k hk=>hh k (h.so k hk) (h.row.lt k hk),fun j hj aB=>K.heap (h.inn j hj aB) fun k hk=>hh k (h.si j hj k hk) (K.lt (h.inn j hj aB) k hk),h.sep,h.out,h.so,h.si⟩
theorem below{B:Nat}(h:GO K w S v ts xs)(hb:Below B w w')(hB:w.1.size<=B):GO K w' S v ts xs:=h.of_heap fun k _ hk=>hb.block k oM
theorem alloc(h:GO K w S v ts xs)(o:Obj):GO K (w.alloc o) S v ts xs:=h.below ((Below.refl _ w).alloc nR o) nR
theorem drew(h:GO K w S v ts xs):GO K w.drew S v ts xs:=h.below (Below.refl w.1.size w).drew nR
theorem mono(h:GO K w S v ts xs)(hs:∀k,S k->S' k):GO K w S' v ts xs:=⟨h.len,h.row,h.inn,h.sep,h.out,fun k e=>hs k (h.so k e),fun j hj k e=>hs k (h.si j hj k e)⟩
theorem form(h:GO K w S v ts xs):∃a cap,v=.slice a xs.length cap:=by
 obtain⟨a,c,e,_⟩:=h.row.form;exact⟨a,c,by rw[e,h.len]⟩
theorem turn(h:GO K w S v ts xs)(j:Nat)(hj:j<ts.length)(t':V3)(x':α)(hr:TOwns w' K.T v (ts.set j t'))(hO:K.O w' t' x')
  (hf:∀k,k<w.1.size->v.ownBlock≠some k->(K.p ts[j]).ownBlock≠some k->w'.1[k]?=w.1[k]?)
  (hn:∀k,(K.p t').ownBlock=some k->(K.p ts[j]).ownBlock=some k\/w.1.size<=k) (hs:∀k,S k->S' k) (hs2:∀k,(K.p t').ownBlock=some k->S' k):GO K w' S' v (ts.set j t') (xs.set j x'):=by
 exact cQ9
end GO
def R3{α:Type}(K:Kd α)(w:World)(v:Value)(xs:List α):Prop:=∃a cap,v=.slice a xs.length cap/\xs.length<=cap/\∀(j:Nat)(h:j<xs.length),∃g off t,a=some ⟨g,off,none⟩/\g<w.1.size/\w.cell? ⟨g,off+j*3,none⟩=some t.1/\w.cell? ⟨g,off+j*3+1,none⟩=some t.2.1/\w.cell? ⟨g,off+j*3+2,none⟩=some t.2.2/\K.R w t xs[j]
theorem R3.below{α:Type}{K:Kd α}{w w':World}{B:Nat}{v:Value}{xs:List α}(h:R3 K w v xs)(hb:Below B w w')(hB:w.1.size<=B):R3 K w' v xs:=by
 obtain⟨a,cap,rfl,aC,h⟩:=h;refine⟨a,cap,rfl,aC,fun j hj=>?_⟩;obtain⟨g,aB,t,e,hg,c0,c1,c2,r⟩:=h j hj;have aD:=Nat.lt_of_lt_of_le hg hB;exact⟨g,aB,t,e,Nat.lt_of_lt_of_le hg hb.size,(hb.cell (p:=⟨g,aB+j*3,none⟩) aD).trans c0,(hb.cell (p:=⟨g,aB+j*3+1,none⟩) aD).trans c1,(hb.cell (p:=⟨g,aB+j*3+2,none⟩) aD).trans c2,K.bel r hb hB⟩
theorem R3.alloc{α:Type}{K:Kd α}{w:World}{v:Value}{xs:List α}(h:R3 K w v xs)(o:Obj):R3 K (w.alloc o) v xs:=h.below ((Below.refl _ w).alloc nR o) nR
theorem R3.drew{α:Type}{K:Kd α}{w:World}{v:Value}{xs:List α}(h:R3 K w v xs):R3 K w.drew v xs:=h.below (Below.refl w.1.size w).drew nR
theorem R3.form{α:Type}{K:Kd α}{w:World}{v:Value}{xs:List α}(h:R3 K w v xs):∃a c,v=.slice a xs.length c:=by
 obtain⟨a,c,h,_⟩:=h;exact⟨a,c,h⟩
theorem R3.form2{α:Type}{K:Kd α}{w:World}{v:Value}{xs:List α}(h:R3 K w v xs):∃a c,v=.slice a xs.length c/\xs.length<=c:=by
 obtain⟨a,c,h,h2,_⟩:=h;exact⟨a,c,h,h2⟩
theorem GO.r3{α:Type}{K:Kd α}{w:World}{S:Nat->Prop}{v:Value}{ts:List V3}{xs:List α}(h:GO K w S v ts xs):R3 K w v xs:=by
 obtain⟨a,cap,e,hc,aB⟩:=h.row.form;have hl:=h.len;refine⟨a,cap,by rw[e,hl],by omega,fun j hj=>?_⟩;obtain⟨g,c,e1,c0,c1,c2,_,hg,_⟩:=h.row.at j oM;rw[e]at e1;simp only[Value.slice.injEq]at e1;obtain⟨rfl,-,-⟩:=e1;exact⟨g,0,ts[j]'oM,rfl,hg,by rw[Nat.zero_add];exact c0,by rw[Nat.zero_add];exact c1,by rw[Nat.zero_add];exact c2,K.rd (h.inn j oM hj)⟩
abbrev Ino:=Int×Int×List Int
abbrev Blk:=Bool×List Sl×ByteArray
def KI:Kd Ino where
 T:=59
 p:=fun t=>t.2.2
 O:=fun w t x=>t.1=.int .i64 x.1/\t.2.1=.int .i64 x.2.1/\ROwns w 0 3 t.2.2 (ic x.2.2)
 R:=fun w t x=>t.1=.int .i64 x.1/\t.2.1=.int .i64 x.2.1/\RInts w t.2.2 x.2.2
 heap:=fun h hh=>⟨h.1,h.2.1,h.2.2.of_heap hh⟩
 lt:=fun h k hk=>(h.2.2.lt k hk).2
 rd:=fun h=>⟨h.1,h.2.1,h.2.2.rints⟩
 bel:=fun h hb hB=>⟨h.1,h.2.1,h.2.2.below hb hB⟩
def KB:Kd Blk where
 T:=95
 p:=fun t=>t.2.1
 O:=fun w t x=>t.1=.bool x.1/\SOwns w 0 90 t.2.1 x.2.1/\t.2.2=.string x.2.2
 R:=fun w t x=>t.1=.bool x.1/\RSl w t.2.1 x.2.1/\t.2.2=.string x.2.2
 heap:=fun h hh=>⟨h.1,h.2.1.of_heap hh,h.2.2⟩
 lt:=fun h k hk=>(h.2.1.lt k hk).2
 rd:=fun h=>⟨h.1,h.2.1.rsl,h.2.2⟩
 bel:=fun h hb hB=>⟨h.1,h.2.1.below hb hB,h.2.2⟩
end Kit
namespace Kit
end Kit
namespace Kit
end Kit
theorem Tryz.u87:Tryz.prog.underlying 87=some (.slice 90):=by kernel_rfl
theorem Tryz.i90:(Tryz.prog.info? 90).map (fun i=>(i.zero,i.size,i.bytes))=some (some (.agg #[.string ⟨#[]⟩,nI 0]),2,24):=by kernel_rfl
namespace Kit
abbrev Row:=List Va
def Even(n:Nat)(ts:List Row):Prop:=∀t∈ts,t.length=n
theorem Even.nil(n:Nat):Even n []:=fun _ h=>by cases h
theorem Even.cons{n:Nat}{t:Row}{ts:List Row}(h:Even n (t::ts)):t.length=n/\Even n ts:=⟨h t sI,fun x hx=>h x (by simp[hx])⟩
theorem Even.mk{n:Nat}{t:Row}{ts:List Row}(h1:t.length=n)(h:Even n ts):Even n (t::ts):=fun x hx=>(List.mem_cons.1 hx).elim (fun e=>e ▸ h1) (h x)
theorem Even.append{n:Nat}{a b:List Row}(ha:Even n a)(hb:Even n b):Even n (a++b):=fun x hx=>(List.mem_append.1 hx).elim (ha x) (hb x)
theorem Even.at{n:Nat}{ts:List Row}(h:Even n ts)(j:Nat)(hj:j<ts.length):ts[j].length=n:=h _ (gM_ hj)
theorem Even.set{n:Nat}{ts:List Row}(h:Even n ts)(j:Nat){t:Row}(ht:t.length=n):Even n (ts.set j t):=fun x hx=>(mS hx).elim (h x) (fun e=>e ▸ ht)
theorem zbx{n:Nat}{ts:List Row}(h:Even n ts):ts.flatten.length=ts.length*n:=by
 induction ts with
 | nil=>simp
 | cons t r ih=>rw[List.flatten_cons,lA,ih h.cons.2,h.cons.1,lC,Nat.add_mul];omega
theorem flat_at{n:Nat}{ts:List Row}(h:Even n ts)(j i:Nat)(hj:j<ts.length)(hi:i<n):ts.flatten[j*n+i]?=ts[j][i]?:=by
 induction ts generalizing j with
 | nil=>simp at hj
 | cons t r ih =>
  have h1:=h.cons.1
  cases j with
  | zero =>
   rw[Nat.zero_mul,zA_,List.flatten_cons,List.getElem?_append_left oM];rfl
  | succ j =>
   rw[List.flatten_cons,List.getElem?_append_right (by rw[Nat.add_mul];omega),show(j+1)*n+i-t.length=j*n+i by rw[Nat.add_mul];omega];exact ih h.cons.2 j (by simpa using hj)
theorem flat_set{n:Nat}{ts:List Row}(h:Even n ts)(j i:Nat)(hj:j<ts.length)(hi:i<n)(x:Va):ts.flatten.set (j*n+i) x=(ts.set j (ts[j].set i x)).flatten:=by
 induction ts generalizing j with
 | nil=>simp at hj
 | cons t r ih =>
  have h1:=h.cons.1
  cases j with
  | zero =>
   rw[Nat.zero_mul,zA_,List.flatten_cons,List.set_append_left _ _ oM];rfl
  | succ j =>
   rw[List.flatten_cons,List.set_append_right _ _ (by rw[Nat.add_mul];omega),show(j+1)*n+i-t.length=j*n+i by rw[Nat.add_mul];omega,ih h.cons.2 j (by simpa using hj)];rfl
def setRow(w:Wd)(g off:Nat):Row->World
 | []=>w
 | x::r=>setRow (w.setCell ⟨g,off,none⟩ x) g (off+1) r
theorem zeh(g:Nat)(t:Row):∀(w:Wd)(aB k:Nat),k≠g->(setRow w g aB t).heap[k]?=w.1[k]?:=by
 induction t with
 | nil=>exact fun _ _ _ _=>rfl
 | cons x r ih=>exact fun w aB k hk=>(ih _ _ k hk).trans (hO_ w ⟨g,aB,none⟩ k x hk)
def NOwns(w:Wd)(e:TypeId)(n:Nat)(v:Va)(ts:List Row):Prop:=Even n ts/\w.ownsRow 0 e n v ts.length ts.flatten
theorem NOwns.lt{w:Wd}{e:TypeId}{n:Nat}{v:Va}{l:List Row}(h:NOwns w e n v l):∀k,v.ownBlock=some k->k<w.1.size:=fun k hk=>(World.ownsRow.lt h.2 k hk).2
theorem NOwns.of_heap{w w':Wd}{e:TypeId}{n:Nat}{v:Va}{l:List Row}(h:NOwns w e n v l)(hh:∀k,v.ownBlock=some k->w'.1[k]?=w.1[k]?):NOwns w' e n v l:=by
 refine⟨h.1,h.2.1,?_⟩;rcases h.2.2 with h1|⟨g,cap,cur,h1,h2,h3,h4⟩
 ·exact .inl h1
 exact .inr ⟨g,cap,cur,h1,h2,by rw[hh g (by rw[h1];rfl),h3],h4⟩
theorem NOwns.nil(w:Wd)(e:TypeId)(n:Nat):NOwns w e n (.slice none 0 0) []:=⟨Even.nil _,World.ownsRow_nil _ _ _ _⟩
theorem NOwns.form{w:Wd}{e:TypeId}{n:Nat}{v:Va}{l:List Row}(h:NOwns w e n v l):∃a cap,v=.slice a l.length cap/\l.length<=cap/\(a=none->l=[]):=by
 rcases h.2.2 with⟨rfl,h0⟩| ⟨g,cap,cur,rfl,_,_,hc,_⟩
 ·exact cQ142
 exact⟨_,_,rfl,hc,fun h=>by cases h⟩
theorem NOwns.at{w:Wd}{e:TypeId}{n:Nat}{v:Va}{l:List Row}(h:NOwns w e n v l)(k:Nat)(hk:k<l.length):
  ∃g cap,v=.slice (aA g 0) l.length cap/\(∀i,i<n->w.cell? ⟨g,k*n+i,none⟩=l[k][i]?)/\(∀j,w.frozen? ⟨g,j,none⟩=false)/\g<w.1.size/\l.length<=cap:=by
 have aB:=h.lt;rcases h.2.2 with⟨h1,h0⟩| ⟨g,cap,cur,rfl,h2,h3,h4,h5,h6,h7⟩
 ·omega
 have h':w.ownsRow 0 e n (.slice (aA g 0) l.length cap) l.length l.flatten:=h.2;refine⟨g,cap,rfl,fun i hi=>(h'.cellAt _ ?_).trans (flat_at h.1 k i hk hi),h'.frozenAt,aB g rfl,h4⟩;have:(k+1)*n<=l.length*n:=Nat.mul_le_mul_right n hk;rw[Nat.add_mul]at this;omega
theorem NOwns.set{w:Wd}{g cap:Nat}{e:TypeId}{n:Nat}{l:List Row}(h:NOwns w e n (.slice (aA g 0) l.length cap) l)(k i:Nat)(hk:k<l.length)(hi:i<n)(x:Va):
  NOwns (w.setCell ⟨g,k*n+i,none⟩ x) e n (.slice (aA g 0) l.length cap) (l.set k (l[k].set i x)):=by
 refine⟨h.1.set k (by rw[lS];exact h.1.at k hk),?_⟩;rw[lS,←flat_set h.1 k i hk hi x];exact(World.ownsRow.stored h.2 (k*n+i) x).1
theorem NOwns.setRow{g cap:Nat}{e:TypeId}{n:Nat}(k:Nat)(t:Row):∀(w:Wd)(l:List Row)(hk:k<l.length)(pre:Row),NOwns w e n (.slice (aA g 0) l.length cap) l->pre.length+t.length=n->l[k].take pre.length=pre ->
  NOwns (setRow w g (k*n+pre.length) t) e n (.slice (aA g 0) l.length cap) (l.set k (pre++t)):=by
 induction t with
 | nil =>
  intro w l hk pre h hl hp;have e1:l[k]=pre:=by
   have:=h.1.at k hk;rw[←hp,tL (by simp at hl;omega)]
  rw[List.append_nil,←e1,List.set_getElem_self];exact h
 | cons x r ih =>
  intro w l hk pre h hl hp;have aB:=h.1.at k hk;simp only[lC]at hl;have h1:=h.set k pre.length hk oM x;have aC:k<(l.set k (l[k].set pre.length x)).length:=by simpa using hk
  have h2:NOwns (w.setCell ⟨g,k*n+pre.length,none⟩ x) e n (.slice (aA g 0) (l.set k (l[k].set pre.length x)).length cap) (l.set k (l[k].set pre.length x)):=by rw[lS];exact h1
  have aD:(l.set k (l[k].set pre.length x))[k].take (pre++[x]).length=pre++[x]:=by
   rw[gS_,lA,List.length_singleton,List.take_add_one,List.take_set_of_le nR,hp,List.getElem?_set_self oM];rfl
  have h3:=ih _ _ aC (pre++[x]) h2 sO aD;rw[lA,List.length_singleton,lS,List.set_set,List.append_assoc]at h3;exact h3
theorem NOwns.of_at{w:Wd}{e:TypeId}{n g:Nat}{cs:Array Va}{ts:List Row}(h:AtC w g e cs)(hc:cs.toList=ts.flatten)(he:Even n ts)(hm:ts.length<=maxLen):NOwns w e n (.slice (aA g 0) ts.length ts.length) ts:=by
 have hs:cs.size=ts.length*n:=by rw[←Array.length_toList,hc,zbx he]
 refine⟨he,by rw[zbx he],.inr ⟨g,ts.length,cs,rfl,zL _,h,Nat.le_refl _,hm,hs,?_⟩⟩;rw[hc,tL (by rw[zbx he];exact Nat.le_refl _)]
theorem zap{P:Program}(W:Wd){ops:Array Oper}{o:Oper}{a:Act}{K:Act->Wd->Prop}{Q:Exit->Act->Wd->Prop}{E:Prop}(hgd:o.guard=none)(s x:Operand)(t:TypeId)
  (ho:o.op=.call { callee:=.builtin .append,args:=#[s,x],argTypes:=#[t,t] }) (e:TypeId) (ht:P.underlying t=some (.slice e)) (z:Va) (n bytes:Nat)
  (hi:(P.info? e).map (fun i=>(i.zero,i.size,i.bytes))=some (some z,n,bytes)) (hzc:z.cells.size=n) (hn:0<n) (hby:bytes<=640) (v:Va) (ts:List Row) (hs:a.eval s=v) (hown:NOwns W e n v ts)
  (g:Nat) (y:Row) (hy:y.length=n) (hx:a.eval x=.slice (aA g 0) 1 1) (hc:∀(j:Nat)(u:Va),y[j]?=some u->W.cell? ⟨g,j,none⟩=some u) (h1:∀u∈y,u.oneCell'=true) (hl:ts.length<=100000000000)
  (h:∀v' w',NOwns w' e n v' (ts++[y])->W.grownBy w' v.ownBlock->(∀k,v'.ownBlock=some k->v.ownBlock=some k\/W.1.size<=k)->K (a.put o.dst v') w') :
  if Region.wanted o (yielded ops a.tmps)=true then Oper.wp P o a W K Q else E:=by
 obtain⟨i0,hi,aG,aF,aD⟩:=info_parts hi;refine step_append_lies _ hgd s x t ho 0 e i0 z n bytes ht hi aG aF aD hzc hn v ts.length ts.flatten hs hown.2 ⟨g,0,none⟩ 1 1 y hx (by rw[hy,Nat.one_mul]) ?_ h1 dC ?_ ?_ (zL _) W.1.size rfl ?_
 ·intro j u hj;have:=hc j u hj;by_cases e:j=0
  ·subst e;simpa[Addr.add]using this
  simpa[Addr.add,e]using this
 ·unfold maxLen;omega
 ·have:(ts.length+1)*bytes<=100000000001*640:=Nat.mul_le_mul oM hby;omega
 intro g' cap w' aB aC hat _;refine h _ w' ⟨hown.1.append (Even.mk hy (Even.nil _)),?_⟩ aC fun k hk=>?_
 ·rw[lA,List.flatten_append,show[y].flatten=y by simp];exact aB
 exact cQ60
structure Kn(α:Type) where
 n:Nat
 T:TypeId
 p:Row->Value
 O:Wd->Row->α->Prop
 R:Wd->Row->α->Prop
 len:∀{w:Wd}{t:Row}{x:α},O w t x->t.length=n
 heap:∀{w w':Wd}{t:Row}{x:α},O w t x->(∀k,(p t).ownBlock=some k->w'.1[k]?=w.1[k]?)->O w' t x
 lt:∀{w:Wd}{t:Row}{x:α},O w t x->∀k,(p t).ownBlock=some k->k<w.1.size
 rd:∀{w:Wd}{t:Row}{x:α},O w t x->R w t x
 bel:∀{w w':Wd}{t:Row}{x:α}{B:Nat},R w t x->Below B w w'->w.1.size<=B->R w' t x
structure GN{α:Type}(K:Kn α)(w:Wd)(S:Nat->Prop)(v:Va)(ts:List Row)(xs:List α):Prop where
 len:ts.length=xs.length
 row:NOwns w K.T K.n v ts
 inn:∀(j:Nat)(h:j<ts.length)(h':j<xs.length),K.O w ts[j] xs[j]
 sep:∀(i j:Nat)(hi:i<ts.length)(hj:j<ts.length),i≠j->∀k,(K.p ts[i]).ownBlock=some k->(K.p ts[j]).ownBlock≠some k
 out:∀(j:Nat)(h:j<ts.length)(k:Nat),(K.p ts[j]).ownBlock=some k->v.ownBlock≠some k
 so:∀k,v.ownBlock=some k->S k
 si:∀(j:Nat)(h:j<ts.length)(k:Nat),(K.p ts[j]).ownBlock=some k->S k
namespace GN
variable {α : Type} {K : Kn α} {w w' w1 w2 : World} {S S' : Nat -> Prop} {v v' : Value} {ts : List Row} {xs : List α} {t' : Row} {x' : α}
theorem of_heap(h:GN K w S v ts xs)(hh:∀k,S k->k<w.1.size->w'.1[k]?=w.1[k]?):GN K w' S v ts xs :=
 ⟨h.len,h.row.of_heap fun k hk=>hh k (h.so k hk) (h.row.lt k hk),fun j hj aB=>K.heap (h.inn j hj aB) fun k hk=>hh k (h.si j hj k hk) (K.lt (h.inn j hj aB) k hk),h.sep,h.out,h.so,h.si⟩
theorem below{B:Nat}(h:GN K w S v ts xs)(hb:Below B w w')(hB:w.1.size<=B):GN K w' S v ts xs:=h.of_heap fun k _ hk=>hb.block k oM
theorem alloc(h:GN K w S v ts xs)(o:Obj):GN K (w.alloc o) S v ts xs:=h.below ((Below.refl _ w).alloc nR o) nR
theorem drew(h:GN K w S v ts xs):GN K w.drew S v ts xs:=h.below (Below.refl w.1.size w).drew nR
theorem mono(h:GN K w S v ts xs)(hs:∀k,S k->S' k):GN K w S' v ts xs:=⟨h.len,h.row,h.inn,h.sep,h.out,fun k e=>hs k (h.so k e),fun j hj k e=>hs k (h.si j hj k e)⟩
theorem bound(h:GN K w S v ts xs):GN K w (fun k=>S k/\k<w.1.size) v ts xs :=
 ⟨h.len,h.row,h.inn,h.sep,h.out,fun k e=>⟨h.so k e,h.row.lt k e⟩,fun j hj k e=>⟨h.si j hj k e,K.lt (h.inn j hj (by rw[←h.len];exact hj)) k e⟩⟩
theorem form(h:GN K w S v ts xs):∃a cap,v=.slice a xs.length cap:=by
 obtain⟨a,c,e,_⟩:=h.row.form;exact⟨a,c,by rw[e,h.len]⟩
theorem nil(w:World)(S:Nat->Prop):GN K w S (.slice none 0 0) [] [] :=
 ⟨rfl,NOwns.nil _ _ _,fun j hj=>by simp at hj,fun i j hi=>by simp at hi,fun j hj=>by simp at hj,(fun k e=>by cases e),fun j hj=>by simp at hj⟩
theorem len_of(h:GN K w S v ts xs){a:Option Addr}{n cap:Nat}(hv:v=.slice a n cap):n=ts.length:=by
 exact cQ125
theorem turn(h:GN K w S v ts xs)(j:Nat)(hj:j<ts.length)(t':Row)(x':α)(hr:NOwns w' K.T K.n v (ts.set j t'))(hO:K.O w' t' x')
  (hf:∀k,k<w.1.size->v.ownBlock≠some k->(K.p ts[j]).ownBlock≠some k->w'.1[k]?=w.1[k]?)
  (hn:∀k,(K.p t').ownBlock=some k->(K.p ts[j]).ownBlock=some k\/w.1.size<=k) (hs:∀k,S k->S' k) (hs2:∀k,(K.p t').ownBlock=some k->S' k):GN K w' S' v (ts.set j t') (xs.set j x'):=by
 exact cQ9
theorem put(h:GN K w S v ts xs){g n cap:Nat}(hv:v=.slice (some ⟨g,0,none⟩) n cap)(j:Nat)(hj:j<ts.length)(hb:Below w.1.size w w1)(hO:K.O w1 t' x')
  (hn:∀k,(K.p t').ownBlock=some k->w.1.size<=k) (hs:∀k,S k->S' k) (hs2:∀k,w.1.size<=k->S' k):GN K (setRow w1 g (j*K.n) t') S' v (ts.set j t') (xs.set j x'):=by
 have hg:g<w.1.size:=h.row.lt g vR;have r1:NOwns w1 K.T K.n v ts:=h.row.of_heap fun k hk=>hb.block k (h.row.lt k hk);have aB:=h.len_of hv;subst aB;subst hv;refine h.turn j hj t' x' ?_ (K.heap hO fun k hk=>zeh g t' _ _ k (by have:=hn k hk;omega)) (fun k hk h1 _=>(zeh g t' _ _ k (fun e=>h1 (by rw[e];rfl))).trans (hb.block k hk)) (fun k hk=>.inr (hn k hk)) hs (fun k hk=>hs2 k (hn k hk));have:=NOwns.setRow (g:=g) (cap:=cap) j t' w1 ts hj [] r1 (by rw[List.length_nil,Nat.zero_add];exact K.len hO) rfl;exact this
theorem append(h:GN K w S v ts xs)(hb:Below w.1.size w w1)(hO:K.O w1 t' x')(hn:∀k,(K.p t').ownBlock=some k->w.1.size<=k)
  (hr:NOwns w2 K.T K.n v' (ts++[t'])) (hg:w1.grownBy w2 v.ownBlock) (hv:∀k,v'.ownBlock=some k->v.ownBlock=some k\/w1.1.size<=k):GN K w2 (fun k=>(S k/\k<w.1.size)\/w.1.size<=k) v' (ts++[t']) (xs++[x']):=by
 exact cQ5
end GN
def RN{α:Type}(K:Kn α)(w:World)(v:Value)(xs:List α):Prop:=∃a cap,v=.slice a xs.length cap/\xs.length<=cap/\∀(j:Nat)(h:j<xs.length),∃g off t,a=some ⟨g,off,none⟩/\g<w.1.size/\(∀i,i<K.n->w.cell? ⟨g,off+j*K.n+i,none⟩=t[i]?)/\K.R w t xs[j]
theorem RN.below{α:Type}{K:Kn α}{w w':World}{B:Nat}{v:Value}{xs:List α}(h:RN K w v xs)(hb:Below B w w')(hB:w.1.size<=B):RN K w' v xs:=by
 obtain⟨a,cap,h1,h2,h3⟩:=h;refine⟨a,cap,h1,h2,fun j hj=>?_⟩;obtain⟨g,aB,t,k1,k2,k3,k4⟩:=h3 j hj;exact⟨g,aB,t,k1,Nat.lt_of_lt_of_le k2 hb.size,fun i hi=>(hb.cell (p:=⟨g,aB+j*K.n+i,none⟩) (by show g<B;omega)).trans (k3 i hi),K.bel k4 hb hB⟩
theorem RN.alloc{α:Type}{K:Kn α}{w:World}{v:Value}{xs:List α}(h:RN K w v xs)(o:Obj):RN K (w.alloc o) v xs:=h.below ((Below.refl _ w).alloc nR o) nR
theorem RN.drew{α:Type}{K:Kn α}{w:World}{v:Value}{xs:List α}(h:RN K w v xs):RN K w.drew v xs:=h.below (Below.refl w.1.size w).drew nR
theorem RN.form{α:Type}{K:Kn α}{w:World}{v:Value}{xs:List α}(h:RN K w v xs):∃a c,v=.slice a xs.length c:=by
 obtain⟨a,c,h,_⟩:=h;exact⟨a,c,h⟩
theorem GN.rn{α:Type}{K:Kn α}{w:World}{S:Nat->Prop}{v:Value}{ts:List Row}{xs:List α}(h:GN K w S v ts xs):RN K w v xs:=by
 obtain⟨a,cap,e,hc,_⟩:=h.row.form;have hl:=h.len;refine⟨a,cap,by rw[e,hl],by omega,fun j hj=>?_⟩;obtain⟨g,c',e',k1,k2,k3,-⟩:=h.row.at j oM;rw[e]at e';simp only[Value.slice.injEq]at e';exact⟨g,0,ts[j],e'.1,k3,fun i hi=>by rw[Nat.zero_add];exact k1 i hi,K.rd (h.inn j oM hj)⟩
end Kit
namespace Kit
theorem R3.ino{w:Wd}{v:Va}{xs:List Ino}(h:R3 KI w v xs):∃a cap,v=.slice a xs.length cap/\xs.length<=cap/\∀(j:Nat)(h:j<xs.length),∃g aB p,a=some ⟨g,aB,none⟩/\g<w.1.size/\w.cell? ⟨g,aB+j*3,none⟩=some (nI xs[j].1)/\w.cell? ⟨g,aB+j*3+1,none⟩=some (nI xs[j].2.1)/\w.cell? ⟨g,aB+j*3+2,none⟩=some p/\RInts w p xs[j].2.2:=by
 obtain⟨a,cap,e,hc,h⟩:=h;refine⟨a,cap,e,hc,fun j hj=>?_⟩;obtain⟨g,aB,t,e1,hg,c0,c1,c2,r0,r1,r2⟩:=h j hj;exact⟨g,aB,t.2.2,e1,hg,by rw[c0,r0],by rw[c1,r1],c2,r2⟩
theorem R3.blk{w:Wd}{v:Va}{xs:List Blk}(h:R3 KB w v xs):∃a cap,v=.slice a xs.length cap/\xs.length<=cap/\∀(j:Nat)(h:j<xs.length),∃g aB p,a=some ⟨g,aB,none⟩/\g<w.1.size/\w.cell? ⟨g,aB+j*3,none⟩=some (.bool xs[j].1)/\w.cell? ⟨g,aB+j*3+1,none⟩=some p/\w.cell? ⟨g,aB+j*3+2,none⟩=some (.string xs[j].2.2)/\RSl w p xs[j].2.1:=by
 obtain⟨a,cap,e,hc,h⟩:=h;refine⟨a,cap,e,hc,fun j hj=>?_⟩;obtain⟨g,aB,t,e1,hg,c0,c1,c2,r0,r1,r2⟩:=h j hj;exact⟨g,aB,t.2.1,e1,hg,by rw[c0,r0],c1,by rw[c2,r2],r1⟩
def bigB(n:Nat)(b:Blk):Prop:=b.2.1.length<=n/\(∀(j:Nat)(h:j<b.2.1.length),b.2.1[j].1.size<=n)/\b.2.2.size<=n
structure Big(n:Nat)(xs ys:List Bool)(is:List Ino)(bs:List Blk):Prop where
 x:xs.length<=n
 y:ys.length<=n
 i:is.length<=n
 p:∀(j:Nat)(h:j<is.length),is[j].2.2.length<=n
 b:bs.length<=n
 s:∀(j:Nat)(h:j<bs.length),bigB n bs[j]
end Kit
namespace Kit
def subs:List Nat->List (List Nat)
 | []=>[[]]
 | x::r=>subs r++(subs r).map fun t=>x::t
theorem ze3(p:Nat->Bool)(js:List Nat):js.filter p∈subs js:=by
 induction js with
 | nil=>simp[subs]
 | cons x r ih =>
  rw[subs,List.mem_append];by_cases h:p x=true
  ·rw[List.filter_cons_of_pos h];exact .inr (List.mem_map.2 ⟨_,ih,rfl⟩)
  rw[List.filter_cons_of_neg h];exact .inl ih
def mask(n:Nat)(s:List Nat):Array Bool:=((List.range n).map fun i=>s.contains i).toArray
theorem zew(n:Nat)(s:List Nat)(j:Nat):(mask n s).setIfInBounds j true=mask n (j::s):=by
 apply Array.ext
 ·simp[mask]
 intro i h1 h2;simp only[mask,Array.size_setIfInBounds,List.size_toArray,lM,List.length_range]at h1;rw[Array.getElem_setIfInBounds (by simpa[mask]using h1)];simp only[mask,List.getElem_toArray,List.getElem_map,List.getElem_range,List.contains_cons];by_cases e:j=i
 ·simp[e]
 have e':(i==j)=false:=sO
 simp[e,e']
theorem zbw(n:Nat)(s s':List Nat)(h:∀i,i∈s↔i∈s'):mask n s=mask n s':=by
 have e:(fun i=>s.contains i)=fun i=>s'.contains i:=by
  funext i
  have:=h i;by_cases hi:i∈s
  ·simp[hi,this.1 hi]
  have:¬i∈s':=fun q=>hi (this.2 q);simp[hi,this]
 rw[mask,mask,e]
theorem zgs(n:Nat):mask n []=Array.replicate n false:=by
 apply Array.ext
 ·simp[mask]
 intro i h1 h2;simp[mask]
def upd{α:Type}(x:Nat->α)(j:Nat)(v:α):Nat->α:=fun i=>if i=j then v else x i
theorem za7{α:Type}(x:Nat->α)(j:Nat)(v:α):upd x j v j=v:=if_pos rfl
theorem zaq{α:Type}(x:Nat->α)(j i:Nat)(v:α)(h:i≠j):upd x j v i=x i:=if_neg h
structure PI(W0:Wd)(s:List Nat)(Post:Nat->Nat->Nat->Wd->Va->Prop)(x:Nat->Value)(iv:Nat->Nat×Nat)(w:Wd):Prop where
 bel:Bw W0 w
 post:∀i∈s,Post i (iv i).1 (iv i).2 w (x i)
 lo:∀i∈s,W0.1.size<=(iv i).1/\(iv i).1<=(iv i).2/\(iv i).2<=w.1.size
 apart:∀i∈s,∀j∈s,i≠j->(iv i).2<=(iv j).1\/(iv j).2<=(iv i).1
theorem PI.add{W0:Wd}{s:List Nat}{Post:Nat->Nat->Nat->Wd->Va->Prop}{x:Nat->Value}{iv:Nat->Nat×Nat}{w w':Wd}{j:Nat}{v:Va}(h:PI W0 s Post x iv w)
  (stable:∀i lo hi w w' v,Post i lo hi w v->Bw w w'->Post i lo hi w' v) (hj:¬j∈s) (hb:Bw w w') (hp:Post j w.1.size w'.1.size w' v) :
  PI W0 (j::s) Post (upd x j v) (upd iv j (w.1.size,w'.1.size)) w':=by
 have hs:=h.bel.size;have hs2:=hb.size;have ne:∀i∈s,i≠j:=fun i hi e=>hj (e ▸ hi);refine⟨h.bel.trans (hb.mono hs),fun i hi=>?_,fun i hi=>?_,fun i hi k hk hne=>?_⟩
 ·rcases List.mem_cons.1 hi with rfl|hi
  ·rw[za7,za7];exact hp
  rw[zaq _ _ _ _ (ne i hi),zaq _ _ _ _ (ne i hi)];exact stable _ _ _ _ _ _ (h.post i hi) hb
 ·exact cQ96
 rcases List.mem_cons.1 hi with ei|aB
 ·exact cQ93
 rcases List.mem_cons.1 hk with ek|hk2
 ·rw[ek,za7,zaq _ _ _ _ (ne i aB)];exact .inl (h.lo i aB).2.2
 replace hi:=aB
 replace hk:=hk2
 rw[zaq _ _ _ _ (ne i hi),zaq _ _ _ _ (ne k hk)];exact h.apart i hi k hk hne
theorem PI.of_mem{W0:Wd}{s s':List Nat}{Post:Nat->Nat->Nat->Wd->Va->Prop}{x:Nat->Value}{iv:Nat->Nat×Nat}{w:Wd}(h:PI W0 s Post x iv w)(hs:∀i∈s',i∈s):PI W0 s' Post x iv w :=
 ⟨h.bel,fun i hi=>h.post i (hs i hi),fun i hi=>h.lo i (hs i hi),fun i hi j hj=>h.apart i (hs i hi) j (hs j hj)⟩
def zd4(md:Region.Mode)(ops:Array Oper)(t:List Nat):Bool:=t.all fun i=>match ops[i]? with| some o=>o.after.all fun e=>!Region.binds md e || t.contains e.on|none=>true
def zc8(md:Region.Mode)(ops:Array Oper)(js:List Nat):Bool :=
 (subs js).all fun t=>t==js || !zd4 md ops t || (!(Region.ready md ops (mask ops.size t)).isEmpty&&(Region.ready md ops (mask ops.size t)).all fun i=>js.contains i&&!t.contains i)
def zcj(md:Region.Mode)(ops:Array Oper):List Nat->List Nat->Bool
 | s,[]=>(Region.ready md ops (mask ops.size s)).isEmpty
 | s,i::r=>(Region.ready md ops (mask ops.size s)==[i])&&(ops[i]?).isSome&&zcj md ops (i::s) r
section
variable {P : Program} {ops : Array Oper} {Q : Exit -> Act -> World -> Prop} {md : Region.Mode}
theorem zcc:∀(line s:List Nat)(fuel:Nat)(a:Act)(w:Wd),zcj md ops s line=true->line.length<=fuel->wpList P ops Q (line.filterMap fun i=>ops[i]?) a w->wpAny P md ops Q fuel (mask ops.size s) a w
 | [],s,fuel,a,w,h,_,hw=>wpAny_done (by simpa[zcj]using h) (by simpa[wpList]using hw) fuel
 | i::r,s,0,a,w,_,hl,_=>by simp at hl
 | i::r,s,fuel+1,a,w,h,hl,hw=>by
  simp only[zcj,aE,beq_iff_eq]at h;obtain⟨⟨h1,h2⟩,h3⟩:=h;obtain⟨o,ho⟩:=Option.isSome_iff_exists.1 h2;have ih:=fun a w hw=>zcc r (i::s) fuel a w h3 (by simpa using hl) hw;refine wpAny_all h1 sI fun j hj=>?_;obtain rfl:j=i:=by simpa using hj
  rw[zew];have aB:wpList P ops Q (o::r.filterMap fun i=>ops[i]?) a w:=by simpa[ho]using hw
  refine wpOp_mono (fun a w=>ih a w) ?_;unfold wpOp;rw[ho];exact aB
theorem zby{n:Nat}{s:List Nat}{j:Nat}(h:j∈Region.ready md ops (mask n s)){o:Oper}(ho:ops[j]?=some o){k:Nat}(he:∃e∈o.after,e.on=k/\Region.binds md e=true):k∈s:=by
 obtain⟨-,o',aC,aB⟩:=mem_ready.1 h;rw[ho]at aC
 cases aC
 obtain⟨e,aD,rfl,aF⟩:=he;have:=aB e aD aF;rw[mask]at this;by_cases hn:e.on<n
 ·simpa[Array.getD,hn]using this
 simp[Array.getD,hn]at this
theorem zhm(js:List Nat)(fuel:Nat)(act:(Nat->Value)->Act)(W0:Wd)(Post:Nat->Nat->Nat->Wd->Va->Prop)(Inv:List Nat->(Nat->Value)->Wd->Prop)
  (stable:∀i lo hi w w' v,Post i lo hi w v->Bw w w'->Post i lo hi w' v) (ok:zc8 md ops js=true)
  (prod:∀j∈js,∀s x iv W,j∈Region.ready md ops (mask ops.size s)->¬j∈s->PI W0 s Post x iv W->Inv s x W->∀K:Act->Wd->Prop,(∀v W',Bw W W'->Post j W.1.size W'.1.size W' v->Inv (j::s) (upd x j v) W'->K (act (upd x j v)) W')->wpOp P ops Q j K (act x) W)
  (rest:∀s x iv W f,fuel<=f->(∀i∈js,i∈s)->PI W0 js Post x iv W->Inv s x W->wpAny P md ops Q f (mask ops.size js) (act x) W) :
  ∀(m f:Nat)(s:List Nat)(x:Nat->Value)(iv:Nat->Nat×Nat)(W:Wd),(js.filter fun i=>!s.contains i).length<=m->fuel<=f->(∀i∈s,i∈js)->(∀i∈s,∀o,ops[i]?=some o->∀e∈o.after,Region.binds md e=true->e.on∈s)->PI W0 s Post x iv W->Inv s x W->wpAny P md ops Q (f+m) (mask ops.size s) (act x) W:=by
 intro m
 induction m with
 | zero =>
  intro f s x iv W hc hf hs hcl hp hv;have hall:∀i∈js,i∈s:=fun i hi=>by
   exact cQ76
  rw[zbw ops.size s js fun i=>⟨hs i,hall i⟩];exact rest s x iv W (f+0) oM hall (hp.of_mem hall) hv
 | succ m ih =>
  intro f s x iv W hc hf hs hcl hp hv;by_cases hall:∀i∈js,i∈s
  ·rw[zbw ops.size s js fun i=>⟨hs i,hall i⟩];exact rest s x iv W _ oM hall (hp.of_mem hall) hv
  have aB:mask ops.size s=mask ops.size (js.filter fun i=>s.contains i):=zbw _ _ _ fun i=>⟨fun h=>List.mem_filter.2 ⟨hs i h,by simpa using h⟩,fun h=>by simpa using(List.mem_filter.1 h).2⟩
  have hk:=List.all_eq_true.1 ok _ (ze3 (fun i=>s.contains i) js);have aG:((js.filter fun i=>s.contains i)==js)=false:=by
   exact cQ100
  have aC:zd4 md ops (js.filter fun i=>s.contains i)=true:=by
   exact cQ53
  rw[aG,aC,Bool.false_or,Bool.not_true,Bool.false_or,aE]at hk;obtain⟨h1,h2⟩:=hk;rw[←aB]at h1 h2;refine wpAny_all rfl (by intro e;rw[e]at h1;simp at h1) fun j hj=>?_;have hj2:=List.all_eq_true.1 h2 j hj;simp only[aE,List.contains_iff_mem,Bool.not_eq_true']at hj2;have hjs:j∈js:=by simpa using hj2.1
  have hjn:¬j∈s:=fun h=>by
   exact cQ110
  rw[zew];refine prod j hjs s x iv W hj hjn hp hv _ fun v W' hb aD aF=>ih f (j::s) _ _ W' ?_ hf (fun i hi=>(List.mem_cons.1 hi).elim (fun e=>e ▸ hjs) (hs i)) (fun i hi o ho e he hbi=>mC _ ((List.mem_cons.1 hi).elim (fun q=>by subst q;exact zby hj ho ⟨e,he,rfl,hbi⟩) (fun q=>hcl i q o ho e he hbi))) (hp.add stable hjn hb aD) aF;have aH:(js.filter fun i=>!(j::s).contains i).length<(js.filter fun i=>!s.contains i).length:=by
   exact cQ51
  omega
theorem zck{id:Nat}{w:Wd}{a0:Act}(hm:P.follows .mixedOrders=true)(js line:List Nat)(act:(Nat->Value)->Act)(x0:Nat->Value)(ha:a0=act x0)(Post:Nat->Nat->Nat->Wd->Va->Prop)(Inv:List Nat->(Nat->Value)->Wd->Prop)
  (stable:∀i lo hi w w' v,Post i lo hi w v->Bw w w'->Post i lo hi w' v) (ok:zc8 .any ops js=true) (okl:zcj .any ops js line=true) (hsz:line.length+js.length=ops.size) (hv:Inv [] x0 w.drew)
  (prod:∀j∈js,∀s x iv W,j∈Region.ready .any ops (mask ops.size s)->¬j∈s->PI w.drew s Post x iv W->Inv s x W->∀K:Act->Wd->Prop,(∀v W',Bw W W'->Post j W.1.size W'.1.size W' v->Inv (j::s) (upd x j v) W'->K (act (upd x j v)) W')->wpOp P ops Q j K (act x) W)
  (rest:∀s x iv W,(∀i∈js,i∈s)->PI w.drew js Post x iv W->Inv s x W->wpList P ops Q (line.filterMap fun i=>ops[i]?) (act x) W):(Code.region id ops true).wp P Q a0 w:=by
 subst ha;refine wp_region_any hm ?_;have h:=zhm (P:=P) (Q:=Q) (md:=.any) js line.length act w.drew Post Inv stable ok prod (fun s x iv W f hf hs hp hi=>zcc line js f (act x) W okl hf (rest s x iv W hs hp hi)) js.length line.length [] x0 (fun _=>(0,0)) w.drew (List.length_filter_le _ _) nR (fun i hi=>by cases hi) (fun i hi=>by cases hi) ⟨bF _ _,(fun i hi=>by cases hi),(fun i hi=>by cases hi),(fun i hi=>by cases hi)⟩ hv;rw[hsz,zgs]at h;exact h
end
end Kit
namespace Kit
def RC(w:Wd)(v:Va)(n:Nat)(cs:List Va):Prop:=∃a cap,v=.slice a n cap/\∀(j:Nat)(u:Va),cs[j]?=some u->∃g off,a=some ⟨g,off,none⟩/\w.cell? ⟨g,off+j,none⟩=some u
theorem zcq{P:Program}(w:Wd)(t ty:TypeId)(base:Nat)(e:TypeId)(ht:P.underlying t=some (.slice e))(z:Va)(m bytes:Nat)
  (hi:(P.info? e).map (fun i=>(i.zero,i.size,i.bytes))=some (some z,m,bytes)) (hzc:z.cells.size=m) (hm0:0<m) (hby:bytes<=640) (v:Va) (hown:w.ownsRow base e m v 0 [])
  (hbase:base<=w.1.size) (x:Va) (n:Nat) (cs:List Va) (hx:RC w x n cs) (hcl:cs.length=n*m) (h1:∀u∈cs,u.oneCell'=true) (hl:n<=100000000000) :
  ∃v' w',(Builtin.append_ #[t,t] ty #[v,x]).run P w=.ok v' w'/\w'.ownsRow base e m v' n cs/\w.grownBy w' v.ownBlock/\(v'.ownBlock=v.ownBlock\/v'.ownBlock=some w.1.size):=by
 obtain⟨i0,hi,aF,aG,aC⟩:=info_parts hi;obtain⟨a,c,rfl,hc⟩:=hx
 cases a with
 | none =>
  have aD:cs=[]:=by
   exact cQ134
  subst aD;have hn:n=0:=by
   exact cQ123
  subst hn;obtain⟨av,cv,rfl⟩:∃av cv,v=.slice av 0 cv:=by
   rcases hown.2 with⟨h1,h0⟩| ⟨g,cap,cur,h1,-,-,h4,-⟩
   ·exact⟨_,_,h1⟩
   exact⟨_,_,h1⟩
  have hr:=run_append_nothing (P:=P) w t t ty e i0 ht hi av 0 cv (zL _) (.slice none 0 c) (Src.ofNil w ht c);exact⟨_,w,hr,hown,zal bR _,.inl rfl⟩
 | some ad =>
  have aH:(0+n)*bytes<=100000000000*640:=Nat.mul_le_mul oM hby;obtain⟨v',w',hr,h2,h3,_,h5⟩:=run_append_own_at (P:=P) w base t ty e i0 z m bytes ht hi aF aG aC hzc hm0 v 0 [] hown ad n c cs hcl
   (fun j u hj=>by
    obtain⟨g,aB,e1,h4⟩:=hc j u hj
    cases e1
    have ha:(⟨g,aB,none⟩:Addr).add j=⟨g,aB+j,none⟩:=by cases j<;>simp[Addr.add]
    rw[ha,h4]) h1 (by unfold maxLen;omega) oM hbase
  refine⟨v',w',hr,?_,h3,h5⟩;rw[zA_,List.nil_append]at h2;exact h2
theorem zfx{P:Program}(w:Wd){o:Oper}{a:Act}{K:Act->Wd->Prop}{Q:Exit->Act->Wd->Prop}(s x:Operand)(t:TypeId)
  (ho:o.op=.call { callee:=.builtin .append,args:=#[s,x],argTypes:=#[t,t] }) (base:Nat) (e:TypeId) (ht:P.underlying t=some (.slice e)) (z:Va) (m bytes:Nat)
  (hi:(P.info? e).map (fun i=>(i.zero,i.size,i.bytes))=some (some z,m,bytes)) (hzc:z.cells.size=m) (hm0:0<m) (hby:bytes<=640) (v:Va) (hs:a.eval s=v) (hown:w.ownsRow base e m v 0 [])
  (hbase:base<=w.1.size) (u:Va) (hu:a.eval x=u) (n:Nat) (cs:List Va) (hx:RC w u n cs) (hcl:cs.length=n*m) (h1:∀u∈cs,u.oneCell'=true) (hl:n<=100000000000)
  (h:∀v' w',w'.ownsRow base e m v' n cs->w.grownBy w' v.ownBlock->(v'.ownBlock=v.ownBlock\/v'.ownBlock=some w.1.size)->K (a.put o.dst v') w'):o.wp P a w K Q:=by
 obtain⟨v',w',hr,h2,h3,h4⟩:=zcq (P:=P) w t o.type base e ht z m bytes hi hzc hm0 hby v hown hbase u n cs hx hcl h1 hl;unfold Oper.wp execOp;simp only[ho,resolve,invoke,builtin,Sem.run_bind,Sem.run_pure,Result.andThen_ok,List.map_toArray,List.map_cons,List.map_nil,hs,hu,hr];exact h v' w' h2 h3 h4
theorem zai{P:Program}(w:Wd){ops:Array Oper}{rest:List Oper}{o:Oper}{a:Act}{Q:Exit->Act->Wd->Prop}(hgd:o.guard=none)(s x:Operand)(t:TypeId)
  (ho:o.op=.call { callee:=.builtin .append,args:=#[s,x],argTypes:=#[t,t] }) (base:Nat) (e:TypeId) (ht:P.underlying t=some (.slice e)) (z:Va) (m bytes:Nat)
  (hi:(P.info? e).map (fun i=>(i.zero,i.size,i.bytes))=some (some z,m,bytes)) (hzc:z.cells.size=m) (hm0:0<m) (hby:bytes<=640) (v:Va) (hs:a.eval s=v) (hown:w.ownsRow base e m v 0 [])
  (hbase:base<=w.1.size) (u:Va) (hu:a.eval x=u) (n:Nat) (cs:List Va) (hx:RC w u n cs) (hcl:cs.length=n*m) (h1:∀u∈cs,u.oneCell'=true) (hl:n<=100000000000)
  (h:∀v' w',w'.ownsRow base e m v' n cs->w.grownBy w' v.ownBlock->(v'.ownBlock=v.ownBlock\/v'.ownBlock=some w.1.size)->wpList P ops Q rest (a.put o.dst v') w'):wpList P ops Q (o::rest) a w :=
 wpList_plain hgd fun _ hK=>zfx w s x t ho base e ht z m bytes hi hzc hm0 hby v hs hown hbase u hu n cs hx hcl h1 hl fun v' w' a b c=>hK _ _ (h v' w' a b c)
theorem zes{P:Program}(w:Wd)(t ty:TypeId)(base:Nat)(e:TypeId)(ht:P.underlying t=some (.slice e))(z:Va)(m bytes:Nat)
  (hi:(P.info? e).map (fun i=>(i.zero,i.size,i.bytes))=some (some z,m,bytes)) (hzc:z.cells.size=m) (hm0:0<m) (hby:bytes<=640) (ao:OA) (hown:w.ownsRow base e m (.slice ao 0 0) 0 [])
  (hbase:base<=w.1.size) (x:Va) (n:Nat) (cs:List Va) (hx:RC w x n cs) (hcl:cs.length=n*m) (h1:∀u∈cs,u.oneCell'=true) (hl:n<=100000000000) :
  ∃v' w',(Builtin.append_ #[t,t] ty #[.slice ao 0 0,x]).run P w=.ok v' w'/\w'.ownsRow base e m v' n cs/\Bw w w'/\(v'.ownBlock=(Value.slice ao 0 0).ownBlock\/v'.ownBlock=some w.1.size):=by
 obtain⟨v',w',hr,h2,h3,h4⟩:=zcq (P:=P) w t ty base e ht z m bytes hi hzc hm0 hby _ hown hbase x n cs hx hcl h1 hl;refine⟨v',w',hr,h2,?_,h4⟩;obtain⟨i0,aF,aK,aL,aH⟩:=info_parts hi;obtain⟨a,c,rfl,hc⟩:=hx;have same:w'=w->Bw w w':=fun e=>e ▸ bF _ _
 cases a with
 | none =>
  have aD:cs=[]:=by
   exact cQ134
  subst aD;have hn:n=0:=by
   exact cQ123
  subst hn;have aB:=run_append_nothing (P:=P) w t t ty e i0 ht aF ao 0 0 (zL _) (.slice none 0 c) (Src.ofNil w ht c);rw[aB]at hr;simp only[Result.ok.injEq]at hr;exact same hr.2.symm
 | some ad =>
  have aC:∀j u,cs[j]?=some u->w.cell? (ad.add j)=some u:=fun j u hj=>by
   obtain⟨g,aG,e1,h4⟩:=hc j u hj
   cases e1
   have ha:(⟨g,aG,none⟩:Addr).add j=⟨g,aG+j,none⟩:=by cases j<;>simp[Addr.add]
   rw[ha,h4]
  subst aL;by_cases hn:n=0
  ·subst hn;have aD:cs=[]:=List.eq_nil_of_length_eq_zero (by simpa using hcl);subst aD;have hs:Src P i0.size t (.slice (some ad) 0 c) 0 [] w:=Src.ofSlice w ht ad 0 c [] sI sI sI;have aB:=run_append_nothing (P:=P) w t t ty e i0 ht aF ao 0 0 (zL _) (.slice (some ad) 0 c) hs;rw[aB]at hr;simp only[Result.ok.injEq]at hr;exact same hr.2.symm
  have hs:Src P i0.size t (.slice (some ad) n c) n cs w:=Src.ofSlice w ht ad n c cs hcl aC h1;have aM:(0+n)*i0.bytes<=100000000000*640:=Nat.mul_le_mul oM (by rw[aH];exact hby);have aB:=run_append_grow_src (P:=P) w t t ty e i0 z ht aF aK ao 0 0 [] (by cases ao<;>simp[Builtin.firstCells,loadCells,loadCellsFrom]) (.slice (some ad) n c) n cs hs oM oM (growslice_fits oM oM);rw[aB]at hr;simp only[Result.ok.injEq]at hr;rw[←hr.2];exact(bF _ w).drew.alloc nR _
theorem zez{P:Program}(w:Wd){o:Oper}{a:Act}{K:Act->Wd->Prop}{Q:Exit->Act->Wd->Prop}(s x:Operand)(t:TypeId)
  (ho:o.op=.call { callee:=.builtin .append,args:=#[s,x],argTypes:=#[t,t] }) (base:Nat) (e:TypeId) (ht:P.underlying t=some (.slice e)) (z:Va) (m bytes:Nat)
  (hi:(P.info? e).map (fun i=>(i.zero,i.size,i.bytes))=some (some z,m,bytes)) (hzc:z.cells.size=m) (hm0:0<m) (hby:bytes<=640) (ao:OA) (hs:a.eval s=.slice ao 0 0) (hown:w.ownsRow base e m (.slice ao 0 0) 0 [])
  (hbase:base<=w.1.size) (u:Va) (hu:a.eval x=u) (n:Nat) (cs:List Va) (hx:RC w u n cs) (hcl:cs.length=n*m) (h1:∀u∈cs,u.oneCell'=true) (hl:n<=100000000000)
  (h:∀v' w',w'.ownsRow base e m v' n cs->Bw w w'->(v'.ownBlock=(Value.slice ao 0 0).ownBlock\/v'.ownBlock=some w.1.size)->K (a.put o.dst v') w'):o.wp P a w K Q:=by
 obtain⟨v',w',hr,h2,h3,h4⟩:=zes (P:=P) w t o.type base e ht z m bytes hi hzc hm0 hby ao hown hbase u n cs hx hcl h1 hl;unfold Oper.wp execOp;simp only[ho,resolve,invoke,builtin,Sem.run_bind,Sem.run_pure,Result.andThen_ok,List.map_toArray,List.map_cons,List.map_nil,hs,hu,hr];exact h v' w' h2 h3 h4
theorem zbf{P:Program}(w:Wd){ops:Array Oper}{o:Oper}{a:Act}{K:Act->Wd->Prop}{Q:Exit->Act->Wd->Prop}{E:Prop}(hgd:o.guard=none)(s x:Operand)(t:TypeId)
  (ho:o.op=.call { callee:=.builtin .append,args:=#[s,x],argTypes:=#[t,t] }) (base:Nat) (e:TypeId) (ht:P.underlying t=some (.slice e)) (z:Va) (m bytes:Nat)
  (hi:(P.info? e).map (fun i=>(i.zero,i.size,i.bytes))=some (some z,m,bytes)) (hzc:z.cells.size=m) (hm0:0<m) (hby:bytes<=640) (ao:OA) (hs:a.eval s=.slice ao 0 0) (hown:w.ownsRow base e m (.slice ao 0 0) 0 [])
  (hbase:base<=w.1.size) (u:Va) (hu:a.eval x=u) (n:Nat) (cs:List Va) (hx:RC w u n cs) (hcl:cs.length=n*m) (h1:∀u∈cs,u.oneCell'=true) (hl:n<=100000000000)
  (h:∀v' w',w'.ownsRow base e m v' n cs->Bw w w'->(v'.ownBlock=(Value.slice ao 0 0).ownBlock\/v'.ownBlock=some w.1.size)->K (a.put o.dst v') w') :
  if Region.wanted o (yielded ops a.tmps)=true then Oper.wp P o a w K Q else E:=by
 rw[if_pos (by simp[Region.wanted,hgd])];exact zez w s x t ho base e ht z m bytes hi hzc hm0 hby ao hs hown hbase u hu n cs hx hcl h1 hl h
theorem RFl.rc{w:Wd}{v:Va}{xs:List Bool}(h:RFl w v xs):RC w v xs.length (fc xs):=by
 obtain⟨a,c,rfl,h⟩:=h;refine⟨a,c,rfl,fun j u hj=>?_⟩;have hl:j<xs.length:=by have:=(List.getElem?_eq_some_iff.1 hj).1;rwa[zad]at this
 obtain⟨g,aB,e1,-,e2⟩:=h j hl;have:u=.bool xs[j]:=by simp[fc,hl]at hj;exact hj.symm
 exact⟨g,aB,e1,by rw[e2,this]⟩
theorem RInts.rc{w:Wd}{v:Va}{xs:List Int}(h:RInts w v xs):RC w v xs.length (ic xs):=by
 obtain⟨a,c,rfl,h⟩:=h;refine⟨a,c,rfl,fun j u hj=>?_⟩;have hl:j<xs.length:=by have:=(List.getElem?_eq_some_iff.1 hj).1;rwa[zaf]at this
 obtain⟨g,aB,e1,-,e2⟩:=h j hl;have:u=nI xs[j]:=by simp[ic,hl]at hj;exact hj.symm
 exact⟨g,aB,e1,by rw[e2,this]⟩
theorem RSl.rc{w:Wd}{v:Va}{xs:List Sl}(h:RSl w v xs):RC w v xs.length (sc xs):=by
 obtain⟨a,c,rfl,-,h⟩:=h;refine⟨a,c,rfl,fun j u hj=>?_⟩;have hl:j<xs.length*2:=by have:=(List.getElem?_eq_some_iff.1 hj).1;rwa[zdn]at this
 obtain⟨q,hq⟩:∃q,q=j/2:=⟨_,rfl⟩
 have aC:q<xs.length:=oM
 obtain⟨g,aD,e1,-,e2,e3⟩:=h q aC;have hm:j%2=0\/j%2=1:=oM
 rcases hm with hm|hm
 ·have aB:j=q*2:=oM
  rw[aB,zlv xs q aC]at hj;exact⟨g,aD,e1,by rw[aB,e2];exact hj⟩
 have aB:j=q*2+1:=oM
 rw[aB,sc_ino xs q aC]at hj;exact⟨g,aD,e1,by rw[aB,←Nat.add_assoc,e3];exact hj⟩
theorem zjf(xs:List Bool):∀u∈fc xs,u.oneCell'=true:=fun u hu=>by simp only[fc,List.mem_map]at hu;obtain⟨_,-,rfl⟩:=hu;rfl
theorem zjg(xs:List Int):∀u∈ic xs,u.oneCell'=true:=fun u hu=>by simp only[ic,List.mem_map]at hu;obtain⟨_,-,rfl⟩:=hu;rfl
theorem sc_one(xs:List Sl):∀u∈sc xs,u.oneCell'=true:=by
 induction xs with
 | nil=>intro u hu;cases hu
 | cons s r ih =>
  intro u hu;simp only[sc,mN]at hu;rcases hu with rfl|rfl|hu
  ·rfl
  ·rfl
  exact ih u hu
theorem RInts.drew{w:Wd}{v:Va}{xs:List Int}(h:RInts w v xs):RInts w.drew v xs:=h.below (bF w.1.size w).drew nR
theorem za5{B:Nat}{w0 w w':Wd}{v:Va}(hb:Below B w0 w)(hB:B<=w.1.size)(hg:w.grownBy w' v.ownBlock)(hv:∀k,v.ownBlock=some k->B<=k):Below B w0 w':=hb.grown hg hB hv
end Kit
namespace Kit
theorem zkg(a b c:Va)(n:Nat):(madeCells #[a,b,c] (n*3)).toList=f3 (List.replicate n (a,b,c)):=by
 apply List.ext_getElem?;intro j;by_cases hj:j<n*3
 ·have e:(madeCells #[a,b,c] (n*3)).toList[j]?=some (#[a,b,c][j%3]!):=by simp[madeCells,hj]
  rw[e];obtain⟨q,hq⟩:∃q,q=j/3:=⟨_,rfl⟩
  have aB:q<(List.replicate n (a,b,c)).length:=sO
  have k:=f3_at (List.replicate n (a,b,c)) q aB;have hm:j%3=0\/j%3=1\/j%3=2:=oM
  rcases hm with h|h|h
  ·rw[show j=q*3 by omega,k.1,show q*3%3=0 by omega];simp
  ·rw[show j=q*3+1 by omega,k.2.1,show(q*3+1)%3=1 by omega];simp
  rw[show j=q*3+2 by omega,k.2.2,show(q*3+2)%3=2 by omega];simp
 rw[List.getElem?_eq_none (by simp[madeCells];omega),List.getElem?_eq_none (by rw[zcp];simp;omega)]
namespace GO
variable {α : Type} {K : Kd α} {w w1 w' : World} {S S' : Nat -> Prop} {v : Value} {ts : List V3} {xs : List α}
theorem bound(h:GO K w S v ts xs):GO K w (fun k=>S k/\k<w.1.size) v ts xs :=
 ⟨h.len,h.row,h.inn,h.sep,h.out,fun k e=>⟨h.so k e,h.row.lt k e⟩,fun j hj k e=>⟨h.si j hj k e,K.lt (h.inn j hj (by rw[←h.len];exact hj)) k e⟩⟩
theorem setCell_other(h:GO K w S v ts xs){b j:Nat}(hb:¬S b)(x:Value):GO K (w.setCell ⟨b,j,none⟩ x) S v ts xs :=
 h.of_heap fun k hs _=>heap_setCell_other w ⟨b,j,none⟩ k x (fun e=>hb (by simp at e;subst e;exact hs))
theorem put(h:GO K w S v ts xs){g n cap:Nat}(hv:v=.slice (some ⟨g,0,none⟩) n cap)(j:Nat)(hj:j<ts.length)(t':V3)(x':α)(hb:Below w.1.size w w1)(hO:K.O w1 t' x')
  (hn:∀k,(K.p t').ownBlock=some k->w.1.size<=k) (hs:∀k,S k->S' k) (hs2:∀k,w.1.size<=k->S' k) :
  GO K (((w1.setCell ⟨g,j*3,none⟩ t'.1).setCell ⟨g,j*3+1,none⟩ t'.2.1).setCell ⟨g,j*3+2,none⟩ t'.2.2) S' v (ts.set j t') (xs.set j x'):=by
 have hg:g<w.1.size:=h.row.lt g vR;have r1:TOwns w1 K.T v ts:=h.row.of_heap fun k hk=>hb.block k (h.row.lt k hk);have aC:n=ts.length:=by
  obtain⟨a,c,e,_⟩:=h.row.form;rw[hv]at e;simp only[Value.slice.injEq]at e;exact e.2.1
 have aB:∀k,k≠g->(((w1.setCell ⟨g,j*3,none⟩ t'.1).setCell ⟨g,j*3+1,none⟩ t'.2.1).setCell ⟨g,j*3+2,none⟩ t'.2.2).heap[k]?=w1.1[k]?:=fun k hk =>
  ((heap_setCell_other _ ⟨g,j*3+2,none⟩ k _ uH).trans (heap_setCell_other _ ⟨g,j*3+1,none⟩ k _ uH)).trans (heap_setCell_other _ ⟨g,j*3,none⟩ k _ uH)
 subst aC;subst hv;refine h.turn j hj t' x' ?_ (K.heap hO fun k hk=>aB k (by have:=hn k hk;omega)) (fun k hk h1 _=>(aB k (fun e=>h1 (by rw[e];rfl))).trans (hb.block k hk)) (fun k hk=>.inr (hn k hk)) hs (fun k hk=>hs2 k (hn k hk));exact r1.set j hj _ _ _
theorem made(w:World)(z:V3)(x:α)(n:Nat)(hm:n<=maxLen)(cs:Array Value)(hc:cs.toList=f3 (List.replicate n z))(hO:∀w,K.O w z x)(hz:(K.p z).ownBlock=none):
  GO K (w.alloc (.cells cs K.T)) (fun k=>w.1.size<=k) (.slice (some ⟨w.1.size,0,none⟩) n n) (List.replicate n z) (List.replicate n x):=by
 refine⟨by simp,?_,fun j hj aB=>?_,fun i j hi hj _ k e=>?_,fun j hj k e=>?_,fun k e=>?_,fun j hj k e=>?_⟩
 ·have:=TOwns.lit w K.T cs (List.replicate n z) hc (by simpa using hm);simpa using this
 ·simp only[List.getElem_replicate];exact hO _
 ·exact cQ59
 ·exact cQ59
 ·simp only[Value.ownBlock,Option.some.injEq]at e;omega
 exact cQ59
end GO
def zI:Ino:=(0,0,[])
def zB:Blk:=(false,[],⟨#[]⟩)
def zB3:V3:=(.bool false,.slice none 0 0,.string ⟨#[]⟩)
theorem zB_own(w:World):KB.O w zB3 zB:=⟨rfl,SOwns.nil _ _ _,rfl⟩
structure DR(w:World)(u v iv bv:Value)(xs ys:List Bool)(is:List Ino)(bs:List Blk):Prop where
 a:RFl w u xs
 b:RFl w v ys
 i:R3 KI w iv is
 k:R3 KB w bv bs
namespace DR
variable {w w' : World} {u v iv bv : Value} {xs ys : List Bool} {is : List Ino} {bs : List Blk}
theorem below{B:Nat}(h:DR w u v iv bv xs ys is bs)(hb:Below B w w')(hB:w.1.size<=B):DR w' u v iv bv xs ys is bs:=⟨h.a.below hb hB,h.b.below hb hB,h.i.below hb hB,h.k.below hb hB⟩
theorem alloc(h:DR w u v iv bv xs ys is bs)(o:Obj):DR (w.alloc o) u v iv bv xs ys is bs:=h.below ((Below.refl _ w).alloc nR o) nR
theorem drew(h:DR w u v iv bv xs ys is bs):DR w.drew u v iv bv xs ys is bs:=h.below (Below.refl w.1.size w).drew nR
theorem form(h:DR w u v iv bv xs ys is bs):∃a1 c1 a2 c2 a3 c3 a4 c4,u=.slice a1 xs.length c1/\v=.slice a2 ys.length c2/\iv=.slice a3 is.length c3/\bv=.slice a4 bs.length c4:=by
 obtain⟨a1,c1,e1⟩:=h.a.form;obtain⟨a2,c2,e2⟩:=h.b.form;obtain⟨a3,c3,e3⟩:=h.i.form;obtain⟨a4,c4,e4⟩:=h.k.form;exact⟨a1,c1,a2,c2,a3,c3,a4,c4,e1,e2,e3,e4⟩
end DR
def DO(w:World)(S:Nat->Prop)(u v iv bv:Value)(xs ys:List Bool)(is:List Ino)(bs:List Blk):Prop :=
 ∃(S1 S2 S3:Nat->Prop)(ti tb:List V3),Two w 0 u v xs ys/\(∀k,(u.ownBlock=some k\/v.ownBlock=some k)->S1 k)/\GO KI w S2 iv ti is/\GO KB w S3 bv tb bs/\(∀k,S1 k->¬S2 k/\¬S3 k)/\(∀k,S2 k->¬S3 k)/\∀k,S1 k\/S2 k\/S3 k->S k
namespace DO
variable {w w' : World} {S S' : Nat -> Prop} {u v iv bv : Value} {xs ys : List Bool} {is : List Ino} {bs : List Blk}
theorem of_heap(h:DO w S u v iv bv xs ys is bs)(hh:∀k,S k->k<w.1.size->w'.1[k]?=w.1[k]?):DO w' S u v iv bv xs ys is bs:=by
 obtain⟨S1,S2,S3,ti,tb,h1,h2,h3,h4,h5,h6,h7⟩:=h;refine⟨S1,S2,S3,ti,tb,⟨h1.a.of_heap fun k hk=>hh k (h7 k (.inl (h2 k (.inl hk)))) (h1.a.lt k hk).2,h1.b.of_heap fun k hk=>hh k (h7 k (.inl (h2 k (.inr hk)))) (h1.b.lt k hk).2,h1.ne⟩,h2,h3.of_heap fun k hs hk=>hh k (h7 k (.inr (.inl hs))) hk,h4.of_heap fun k hs hk=>hh k (h7 k (.inr (.inr hs))) hk,h5,h6,h7⟩
theorem below{B:Nat}(h:DO w S u v iv bv xs ys is bs)(hb:Below B w w')(hB:w.1.size<=B):DO w' S u v iv bv xs ys is bs:=h.of_heap fun k _ hk=>hb.block k oM
theorem alloc(h:DO w S u v iv bv xs ys is bs)(o:Obj):DO (w.alloc o) S u v iv bv xs ys is bs:=h.below ((Below.refl _ w).alloc nR o) nR
theorem mono(h:DO w S u v iv bv xs ys is bs)(hs:∀k,S k->S' k):DO w S' u v iv bv xs ys is bs:=by
 obtain⟨S1,S2,S3,ti,tb,h1,h2,h3,h4,h5,h6,h7⟩:=h;exact⟨S1,S2,S3,ti,tb,h1,h2,h3,h4,h5,h6,fun k hk=>hs k (h7 k hk)⟩
theorem dr(h:DO w S u v iv bv xs ys is bs):DR w u v iv bv xs ys is bs:=by
 obtain⟨S1,S2,S3,ti,tb,h1,h2,h3,h4,-⟩:=h;exact⟨h1.a.rfl,h1.b.rfl,h3.r3,h4.r3⟩
end DO
end Kit
theorem Tryz.u27:Tryz.prog.underlying 27=some (.slice 59):=by kernel_rfl
theorem Tryz.i59:(Tryz.prog.info? 59).map (fun i=>(i.zero,i.size,i.bytes))=some (some (.agg #[nI 0,nI 0,.slice none 0 0]),3,40):=by kernel_rfl
theorem Tryz.u28:Tryz.prog.underlying 28=some (.slice 95):=by kernel_rfl
theorem Tryz.i95:(Tryz.prog.info? 95).map (fun i=>(i.zero,i.size,i.bytes))=some (some (.agg #[.bool false,.slice none 0 0,.string ⟨#[]⟩]),3,48):=by kernel_rfl
theorem make_blk(n:Nat)(h:n<=1048576)(w:Wd):(Instr.makeSlice 28 (nI (n:Int)) (nI (n:Int))).run Tryz.prog w=.ok (.slice (aA w.1.size 0) n n) (w.n (madeCells #[.bool false,.slice none 0 0,.string ⟨#[]⟩] (n*3)) 95):=by
 obtain⟨i0,hi,aD,aC,aB⟩:=info_parts Tryz.i95;rw[run_make w 28 95 i0 _ Tryz.u28 hi aD .i64 .i64 n n oM oM (by rw[aB];omega) oM,aC];rfl
namespace Kit
structure PX(W0:Wd)(s:List Nat)(Po:Nat->Nat->Nat->Wd->(Nat->Value)->Prop)(x:Nat->Value)(iv:Nat->Nat×Nat)(w:Wd):Prop where
 bel:Bw W0 w
 post:∀i∈s,Po i (iv i).1 (iv i).2 w x
 lo:∀i∈s,W0.1.size<=(iv i).1/\(iv i).1<=(iv i).2/\(iv i).2<=w.1.size
 apart:∀i∈s,∀j∈s,i≠j->(iv i).2<=(iv j).1\/(iv j).2<=(iv i).1
theorem PX.add{W0:Wd}{s:List Nat}{Po:Nat->Nat->Nat->Wd->(Nat->Value)->Prop}{x:Nat->Value}{iv:Nat->Nat×Nat}{w w':Wd}{j:Nat}{v:Va}(deps:Nat->List Nat)(h:PX W0 s Po x iv w)
  (stable:∀i lo hi w w' x,Po i lo hi w x->Bw w w'->Po i lo hi w' x) (cong:∀i lo hi w x x',x i=x' i->(∀k∈deps i,x k=x' k)->Po i lo hi w x->Po i lo hi w x')
  (hcl:∀i∈s,∀k∈deps i,k∈s) (hj:¬j∈s) (hb:Bw w w') (hp:Po j w.1.size w'.1.size w' (upd x j v)) :
  PX W0 (j::s) Po (upd x j v) (upd iv j (w.1.size,w'.1.size)) w':=by
 have hs:=h.bel.size;have hs2:=hb.size;have ne:∀i∈s,i≠j:=fun i hi e=>hj (e ▸ hi);refine⟨h.bel.trans (hb.mono hs),fun i hi=>?_,fun i hi=>?_,fun i hi k hk hne=>?_⟩
 ·rcases List.mem_cons.1 hi with rfl|hi
  ·rw[za7];exact hp
  rw[zaq _ _ _ _ (ne i hi)];exact cong _ _ _ _ _ _ (zaq _ _ _ _ (ne i hi)).symm (fun k hk=>(zaq _ _ _ _ (ne k (hcl i hi k hk))).symm) (stable _ _ _ _ _ _ (h.post i hi) hb)
 ·exact cQ96
 rcases List.mem_cons.1 hi with ei|aB
 ·exact cQ93
 rcases List.mem_cons.1 hk with ek|hk2
 ·rw[ek,za7,zaq _ _ _ _ (ne i aB)];exact .inl (h.lo i aB).2.2
 rw[zaq _ _ _ _ (ne i aB),zaq _ _ _ _ (ne k hk2)];exact h.apart i aB k hk2 hne
theorem PX.of_mem{W0:Wd}{s s':List Nat}{Po:Nat->Nat->Nat->Wd->(Nat->Value)->Prop}{x:Nat->Value}{iv:Nat->Nat×Nat}{w:Wd}(h:PX W0 s Po x iv w)(hs:∀i∈s',i∈s):PX W0 s' Po x iv w :=
 ⟨h.bel,fun i hi=>h.post i (hs i hi),fun i hi=>h.lo i (hs i hi),fun i hi j hj=>h.apart i (hs i hi) j (hs j hj)⟩
def zej(ops:Array Oper)(js:List Nat)(deps:Nat->List Nat):Bool:=js.all fun j=>match ops[j]? with| some o=>(deps j).all fun k=>o.after.any fun e=>e.on==k&&Region.binds .any e|none=>false
section
variable {P : Program} {ops : Array Oper} {Q : Exit -> Act -> World -> Prop}
theorem zdq{id:Nat}{w:Wd}{a0:Act}(hm:P.follows .mixedOrders=true)(js line:List Nat)(deps:Nat->List Nat)(act:(Nat->Value)->Act)(x0:Nat->Value)(ha:a0=act x0)(Po:Nat->Nat->Nat->Wd->(Nat->Value)->Prop)
  (stable:∀i lo hi w w' x,Po i lo hi w x->Bw w w'->Po i lo hi w' x) (cong:∀i lo hi w x x',x i=x' i->(∀k∈deps i,x k=x' k)->Po i lo hi w x->Po i lo hi w x')
  (ok:zc8 .any ops js=true) (okl:zcj .any ops js line=true) (okd:zej ops js deps=true) (hsz:line.length+js.length=ops.size)
  (prod:∀j∈js,∀s x iv W,(∀k∈deps j,k∈s)->PX w.drew s Po x iv W->∀K:Act->Wd->Prop,(∀v W',Bw W W'->Po j W.1.size W'.1.size W' (upd x j v)->K (act (upd x j v)) W')->wpOp P ops Q j K (act x) W)
  (rest:∀x iv W,PX w.drew js Po x iv W->wpList P ops Q (line.filterMap fun i=>ops[i]?) (act x) W):(Code.region id ops true).wp P Q a0 w:=by
 have dep:∀j∈js,∀s,j∈Region.ready .any ops (mask ops.size s)->∀k∈deps j,k∈s:=by
  intro j hj s hr k hk;have h:=List.all_eq_true.1 okd j hj
  exact cQ35
 refine zck hm js line act x0 ha (fun _ _ _ _ _=>True) (fun s x W=>(∀i∈s,∀k∈deps i,k∈s)/\∃iv,PX w.drew s Po x iv W) (fun _ _ _ _ _ _ _ _=>trivial) ok okl hsz ⟨(fun i hi=>by cases hi),fun _=>(0,0),⟨bF _ _,(fun i hi=>by cases hi),(fun i hi=>by cases hi),(fun i hi=>by cases hi)⟩⟩ ?_ ?_
 ·intro j hj s x iv W hr aD _ hI K hK;obtain⟨aC,aB,hp⟩:=hI;have hd:=dep j hj s hr;refine prod j hj s x aB W hd hp K fun v W' hb aF=>hK v W' hb trivial ⟨fun i hi k hk=>?_,_,hp.add deps stable cong aC aD hb aF⟩;rcases List.mem_cons.1 hi with rfl|hi
  ·exact mC _ (hd k hk)
  exact mC _ (aC i hi k hk)
 intro s x iv W hs _ hI;obtain⟨-,aB,hp⟩:=hI;exact rest x aB W (hp.of_mem hs)
end
end Kit
namespace Kit
structure Mk where
 deps:List Nat
 P:Nat->Nat->Wd->Va->(Nat->Value)->Prop
 st:∀lo hi w w' v x,P lo hi w v x->Bw w w'->P lo hi w' v x
 cg:∀lo hi w v x x',(∀k∈deps,x k=x' k)->P lo hi w v x->P lo hi w v x'
def Mk.triv:Mk:=⟨[],fun _ _ _ _ _=>True,fun _ _ _ _ _ _ _ _=>trivial,fun _ _ _ _ _ _ _ _=>trivial⟩
def Mk.const(deps:List Nat)(C:Va):Mk:=⟨deps,fun _ _ _ v _=>v=C,fun _ _ _ _ _ _ h _=>h,fun _ _ _ _ _ _ _ h=>h⟩
abbrev pC(D:List Nat)(b o:Nat):Mk:=.const D (.pointer (some ⟨b,o,none⟩))
def Mk.val(deps:List Nat)(R:Nat->Nat->Wd->Va->Prop)(st:∀lo hi w w' v,R lo hi w v->Bw w w'->R lo hi w' v):Mk :=
 ⟨deps,fun lo hi w v _=>R lo hi w v,fun lo hi w w' v _ h hb=>st lo hi w w' v h hb,fun _ _ _ _ _ _ _ h=>h⟩
def Mk.val1(deps:List Nat)(k:Nat)(hk:k∈deps)(R:Nat->Nat->Wd->Va->Va->Prop)(st:∀lo hi w w' u v,R lo hi w u v->Bw w w'->R lo hi w' u v):Mk :=
 ⟨deps,fun lo hi w v x=>R lo hi w (x k) v,fun lo hi w w' v x h hb=>st lo hi w w' (x k) v h hb,fun lo hi w v x x' e h=>by rw[←e k hk];exact h⟩
def actOf(a:Act):List Nat->Nat->(Nat->Value)->Act
 | [],_,_=>a
 | s::r,i,x=>actOf (a.put (some s) (x i)) r (i+1) x
section
variable {P : Program} {ops : Array Oper} {Q : Exit -> Act -> World -> Prop}
theorem zhn{id:Nat}{w:Wd}{a0:Act}(hm:P.follows .mixedOrders=true)(js line sl:List Nat)(L:Nat->Mk)(x0:Nat->Value)(ha:a0=actOf a0 sl 0 x0)
  (ok:zc8 .any ops js=true) (okl:zcj .any ops js line=true) (okd:zej ops js (fun i=>(L i).deps)=true) (hsz:line.length+js.length=ops.size)
  (prod:∀j∈js,∀s x iv W,(∀k∈(L j).deps,k∈s)->PX w.drew s (fun i lo hi w x=>(L i).P lo hi w (x i) x) x iv W->∀K:Act->Wd->Prop,(∀v W',Bw W W'->(L j).P W.1.size W'.1.size W' v (upd x j v)->K (actOf a0 sl 0 (upd x j v)) W')->wpOp P ops Q j K (actOf a0 sl 0 x) W)
  (rest:∀x iv W,PX w.drew js (fun i lo hi w x=>(L i).P lo hi w (x i) x) x iv W->wpList P ops Q (line.filterMap fun i=>ops[i]?) (actOf a0 sl 0 x) W):(Code.region id ops true).wp P Q a0 w :=
 zdq hm js line (fun i=>(L i).deps) (actOf a0 sl 0) x0 ha (fun i lo hi w x=>(L i).P lo hi w (x i) x) (fun i lo hi w w' x h hb=>(L i).st lo hi w w' (x i) x h hb)
  (fun i lo hi w x x' e1 e2 h=>by rw[←e1];exact(L i).cg lo hi w (x i) x x' e2 h) ok okl okd hsz (fun j hj s x iv W hd hp K hK=>prod j hj s x iv W hd hp K fun v W' hb h=>hK v W' hb (by rw[za7];exact h)) rest
theorem zgt{id:Nat}{w:Wd}{a0:Act}(hm:P.follows .mixedOrders=true)(js line sl:List Nat)(L:Nat->Mk)(ha:a0=actOf a0 sl 0 (fun i=>a0.tmps.getD (sl.getD i 0) undef))
  (ok:zc8 .any ops js=true) (okl:zcj .any ops js line=true) (okd:zej ops js (fun i=>(L i).deps)=true) (hsz:line.length+js.length=ops.size)
  (prod:∀j∈js,∀s x iv W,(∀k∈(L j).deps,k∈s)->PX w.drew s (fun i lo hi w x=>(L i).P lo hi w (x i) x) x iv W->∀K:Act->Wd->Prop,(∀v W',Bw W W'->(L j).P W.1.size W'.1.size W' v (upd x j v)->K (actOf a0 sl 0 (upd x j v)) W')->wpOp P ops Q j K (actOf a0 sl 0 x) W)
  (rest:∀x iv W,PX w.drew js (fun i lo hi w x=>(L i).P lo hi w (x i) x) x iv W->wpList P ops Q (line.filterMap fun i=>ops[i]?) (actOf a0 sl 0 x) W):(Code.region id ops true).wp P Q a0 w :=
 zhn hm js line sl L _ ha ok okl okd hsz prod rest
theorem zau{id:Nat}{w:Wd}{a0:Act}(hm:P.follows .mixedOrders=true)(js line:List Nat)(L:Nat->Mk)(act:(Nat->Value)->Act)(x0:Nat->Value)(ha:a0=act x0)
  (ok:zc8 .any ops js=true) (okl:zcj .any ops js line=true) (okd:zej ops js (fun i=>(L i).deps)=true) (hsz:line.length+js.length=ops.size)
  (prod:∀j∈js,∀s x iv W,(∀k∈(L j).deps,k∈s)->PX w.drew s (fun i lo hi w x=>(L i).P lo hi w (x i) x) x iv W->∀K:Act->Wd->Prop,(∀v W',Bw W W'->(L j).P W.1.size W'.1.size W' v (upd x j v)->K (act (upd x j v)) W')->wpOp P ops Q j K (act x) W)
  (rest:∀x iv W,PX w.drew js (fun i lo hi w x=>(L i).P lo hi w (x i) x) x iv W->wpList P ops Q (line.filterMap fun i=>ops[i]?) (act x) W):(Code.region id ops true).wp P Q a0 w :=
 zdq hm js line (fun i=>(L i).deps) act x0 ha (fun i lo hi w x=>(L i).P lo hi w (x i) x) (fun i lo hi w w' x h hb=>(L i).st lo hi w w' (x i) x h hb)
  (fun i lo hi w x x' e1 e2 h=>by rw[←e1];exact(L i).cg lo hi w (x i) x x' e2 h) ok okl okd hsz (fun j hj s x iv W hd hp K hK=>prod j hj s x iv W hd hp K fun v W' hb h=>hK v W' hb (by rw[za7];exact h)) rest
end
end Kit
open Go.Shelf
def Tryz.laysM316_ren:Go.Shelf.Ren:=⟨fun| 316=>84|n=>n,fun| 9=>9|3=>3|4=>4|37=>22|0=>0|127=>167|5=>5|n=>n,fun| n=>n⟩
theorem Tryz.laysM316:Go.Proofs.LaysM.n316 Tryz.prog Tryz.laysM316_ren:={
 mixed:=by kernel_rfl
 f316:=Tryz.func84.trans (congrArg some (by kernel_rfl))
 t0:=Tryz.underlying0
 a0:=Tryz.isAgg0
 z0:=Tryz.sizeOf0
 v0:=Tryz.zeroValue0
 t3:=Tryz.underlying3
 a3:=Tryz.isAgg3
 z3:=Tryz.sizeOf3
 v3:=Tryz.zeroValue3
 t4:=Tryz.underlying4
 a4:=Tryz.isAgg4
 z4:=Tryz.sizeOf4
 v4:=Tryz.zeroValue4
 t9:=Tryz.underlying9
 a9:=Tryz.isAgg9
 z9:=Tryz.sizeOf9
 v9:=Tryz.zeroValue9
 t37:=Tryz.underlying22
 a37:=Tryz.isAgg22
 z37:=Tryz.sizeOf22
 v37:=Tryz.zeroValue22
 t127:=Tryz.underlying167
 a127:=Tryz.isAgg167
 z127:=Tryz.sizeOf167
 v127:=Tryz.zeroValue167
 t5:=Tryz.underlying5
 a5:=Tryz.isAgg5
 z5:=Tryz.sizeOf5
 v5:=Tryz.zeroValue5
 i0:=by kernel_rfl
 i3:=by kernel_rfl
 i4:=by kernel_rfl
 i5:=by kernel_rfl
 i9:=by kernel_rfl
 i37:=by kernel_rfl
 i127:=by kernel_rfl }
open Go.RowKit in
theorem Tryz.stringslite_Clone(s:BA)(w:Wd)(hlim:s.size<=281474976710656):
  Calls Tryz.prog 84 #[.string s] w fun e w'=>e=.returned (.string s)/\Bw w w':=Any.stringslite_Clone Tryz.laysM316 s w hlim
theorem zjj(v:Va)(xs:List Int)(w:Wd)(h:RInts w v xs)(hl:xs.length<=1048576):
  Calls Tryz.prog 103 #[v] w fun e w'=>∃u,e=.returned u/\ROwns w' w.1.size 3 u (ic xs)/\Bw w w':=by
 have HR:=hJ h;have HL:Hid (xs.length<=100000000000):=lT hl dC;clear h hl;go_enter Tryz.func103,Tryz.ntmps103
 go_wp2_with (at_builtin;refine zai _ rfl _ _ 40 rfl w.1.size 3 Tryz.underlying40 _ 1 8 Tryz.i3 rfl dC dC _ rfl (World.ownsRow_nil _ _ _ _) nR _ rfl xs.length (ic xs) HR.o.rc (by rw[zaf,Nat.mul_one]) (zjg xs) HL.o ?_;intro v' w1 R1 R2 R3)
 have HX:Hid (ROwns w1 w.1.size 3 v' (ic xs)/\Bw w w1):=⟨by unfold ROwns;rw[zaf];exact R1,za5 bR nR R2 (fun k hk=>by cases hk)⟩
 clear R1 R2 R3;go_wp2;go_ret;exact⟨_,rfl,HX.o.1,HX.o.2⟩
theorem newS_any(v:Va)(xs:List Sl)(w:Wd)(h:RSl w v xs)(hl:xs.length<=1048576):
  Calls Tryz.prog 129 #[v] w fun e w'=>∃u,e=.returned u/\SOwns w' w.1.size 90 u xs/\Bw w w':=by
 have HR:=hJ h;have HL:Hid (xs.length<=100000000000):=lT hl dC;clear h hl;go_enter Tryz.func129,Tryz.ntmps129
 go_wp2_with (at_builtin;refine zai _ rfl _ _ 87 rfl w.1.size 90 Tryz.underlying87 _ 2 24 Tryz.i90 rfl dC dC _ rfl (World.ownsRow_nil _ _ _ _) nR _ rfl xs.length (sc xs) HR.o.rc (zdn xs) (sc_one xs) HL.o ?_;intro v' w1 R1 R2 R3)
 have HX:Hid (SOwns w1 w.1.size 90 v' xs/\Bw w w1):=⟨R1,za5 bR nR R2 (fun k hk=>by cases hk)⟩
 clear R1 R2 R3;go_wp2;go_ret;exact⟨_,rfl,HX.o.1,HX.o.2⟩
theorem ze4(s:BA)(w:Wd)(h:s.size<=281474976710656):
  Calls Tryz.prog 54 #[.string s] w fun e w'=>e=.returned (.string s)/\Bw w w':=by
 go_enter Tryz.func54,Tryz.ntmps54
 go_wp2_with (go_at_call 84;refine(Tryz.stringslite_Clone _ _ h).mono ?_;rintro e w1 ⟨rfl,hb⟩)
 go_ret;exact⟨rfl,hb⟩
namespace Kit
theorem zlz(w:Wd)(A B:Obj)(e:TypeId)(m:Nat):(((w.alloc A).alloc B).alloc (.cells #[] e)).ownsRow (w.1.size+1+1) e m (.slice (aA (w.1.size+1+1) 0) 0 0) 0 []:=by
 have:=World.ownsRow_lit (base:=w.1.size+1+1) (e:=e) (size:=m) ((w.alloc A).alloc B) #[] 0 sI (zL _) sI;simpa using this
theorem zho(w:Wd)(A B C:Obj):Bw w (((w.alloc A).alloc B).alloc C):=(((bF _ w).alloc nR _).alloc sI _).alloc sO _
theorem AtC.two3(w:Wd)(T1 T2:TypeId)(cs ds:Array Va)(C:Obj):AtC (((w.alloc (.cells cs T1)).alloc (.cells ds T2)).alloc C) w.1.size T1 cs/\AtC (((w.alloc (.cells cs T1)).alloc (.cells ds T2)).alloc C) (w.1.size+1) T2 ds:=by
 refine⟨((AtC.new w T1 cs).alloc _).alloc _,?_⟩;have:=(AtC.new (w.alloc (.cells cs T1)) T2 ds).alloc C;simpa using this
theorem zjk{w w1:Wd}{T e:TypeId}{m n:Nat}{cs Z:Array Va}{ds:List Va}{v':Va}(R1:w1.ownsRow (w.1.size+1+1) e m v' n ds)
  (R2:(((w.alloc (.cells cs T)).alloc (.cells Z T)).alloc (.cells #[] e)).grownBy w1 (Value.slice (aA (w.1.size+1+1) 0) 0 0).ownBlock) :
  ∃a1 c1,v'=.slice a1 n c1/\Bw w w1/\AtC w1 w.1.size T cs/\AtC w1 (w.1.size+1) T Z:=by
 obtain⟨k0,k1⟩:=AtC.two3 w T T cs Z (.cells #[] e);obtain⟨a1,c1,e1⟩:∃a1 c1,v'=.slice a1 n c1:=by
  exact cQ67
 exact⟨a1,c1,e1,za5 (zho w _ _ _) sO R2 (fun k hk=>by simp[Value.ownBlock]at hk;omega),k0.grown R2 (by simp[Value.ownBlock];omega),k1.grown R2 (by simp[Value.ownBlock])⟩
end Kit
theorem ze5(k l:Int)(v:Va)(xs:List Int)(w:Wd)(hv:RInts w v xs)(hl:xs.length<=1048576):
  Calls Tryz.prog 79 #[.agg #[nI k,nI l,v]] w fun e w'=>∃u,e=.returned (.agg #[nI k,nI l,u])/\ROwns w' w.1.size 3 u (ic xs)/\Bw w w':=by
 have HV:=hJ hv;obtain⟨a,c,rfl,-⟩:=hv;have HL:Hid (xs.length<=100000000000):=lT hl dC;clear hl;go_enter Tryz.func79,Tryz.ntmps79
 go_wp2_with (at_builtin;refine zai _ rfl _ _ 40 rfl (w.1.size+1+1) 3 Tryz.underlying40 _ 1 8 Tryz.i3 rfl dC dC (.slice (aA (w.1.size+1+1) 0) 0 0) rfl (zlz w _ _ 3 1) sI _ rfl xs.length (ic xs) (((HV.o.alloc _).alloc _).alloc _).rc (by rw[zaf,Nat.mul_one]) (zjg xs) HL.o ?_;intro v' w1 R1 R2 R3;obtain⟨a1,c1,rfl,B1,K0,K1⟩:=zjk R1 R2;have p0:w1.cell? ⟨w.1.size,0,none⟩=some (nI k):=K0.cell 0;have p1:w1.cell? ⟨w.1.size,1,none⟩=some (nI l):=K0.cell 1;have p2:w1.cell? ⟨w.1.size,2,none⟩=some (sL a xs c):=K0.cell 2;have y2:=K0.frozen 2;have q0:w1.cell? ⟨w.1.size+1,0,none⟩=some (nI 0):=K1.cell 0;have q1:w1.cell? ⟨w.1.size+1,1,none⟩=some (nI 0):=K1.cell 1;have q2:w1.cell? ⟨w.1.size+1,2,none⟩=some (nZ):=K1.cell 2;have z0:=K1.frozen 0;have z1:=K1.frozen 1;have z2:=K1.frozen 2;have HR:=hJ R1;have HB:=hJ B1;clear R1 R2 R3 K0 K1 B1)
 have HO:Hid (ROwns w1 (w.1.size+1+1) 3 (sL a1 xs c1) (ic xs)):=by show ROwns _ _ _ _ _;unfold ROwns;rw[zaf];exact HR.o
 refine bY (v:=.agg #[nI k,nI l,sL a1 xs c1]) sQ3 rfl ⟨_,rfl,?_,?_⟩
 ·exact((((((HO.o.setCell_other oM _).setCell_other oM _).setCell_other oM _).setCell_other oM _)).base_le oM)
 exact cQ122
theorem ze6(d:Bool)(t:BA)(v:Va)(xs:List Sl)(w:Wd)(hv:RSl w v xs)(hl:xs.length<=1048576):
  Calls Tryz.prog 80 #[.agg #[.bool d,v,.string t]] w fun e w'=>∃u,e=.returned (.agg #[.bool d,u,.string t])/\SOwns w' w.1.size 90 u xs/\Bw w w':=by
 have HV:=hJ hv;obtain⟨a,c,rfl,-⟩:=hv;have HL:Hid (xs.length<=100000000000):=lT hl dC;clear hl;go_enter Tryz.func80,Tryz.ntmps80
 go_wp2_with (at_builtin;refine zai _ rfl _ _ 87 rfl (w.1.size+1+1) 90 Tryz.underlying87 _ 2 24 Tryz.i90 rfl dC dC (.slice (aA (w.1.size+1+1) 0) 0 0) rfl (zlz w _ _ 90 2) sI _ rfl xs.length (sc xs) (((HV.o.alloc _).alloc _).alloc _).rc (zdn xs) (sc_one xs) HL.o ?_;intro v' w1 R1 R2 R3;obtain⟨a1,c1,rfl,B1,K0,K1⟩:=zjk R1 R2;have p0:w1.cell? ⟨w.1.size,0,none⟩=some (.bool d):=K0.cell 0;have p1:w1.cell? ⟨w.1.size,1,none⟩=some (sL a xs c):=K0.cell 1;have p2:w1.cell? ⟨w.1.size,2,none⟩=some (.string t):=K0.cell 2;have y2:=K0.frozen 1;have q0:w1.cell? ⟨w.1.size+1,0,none⟩=some (.bool false):=K1.cell 0;have q1:w1.cell? ⟨w.1.size+1,1,none⟩=some (nZ):=K1.cell 1;have q2:w1.cell? ⟨w.1.size+1,2,none⟩=some (eT):=K1.cell 2;have z0:=K1.frozen 0;have z1:=K1.frozen 1;have z2:=K1.frozen 2;have HR:=hJ R1;have HB:=hJ B1;clear R1 R2 R3 K0 K1 B1)
 have HO:Hid (SOwns w1 (w.1.size+1+1) 90 (sL a1 xs c1) xs):=HR.o;refine bY (v:=.agg #[.bool d,sL a1 xs c1,.string t]) sQ3 rfl ⟨_,rfl,?_,?_⟩
 ·exact((((((HO.o.setCell_low oM _).setCell_low oM _).setCell_low oM _).setCell_low oM _)).base_le oM)
 exact cQ122
structure Nb(w w':Wd)(d:Bool)(t:BA)(u:Va)(xs:List Sl):Prop where
 box:AtC w' w.1.size 95 #[.bool d,u,.string t]
 res:AtC w' (w.1.size+1) 95 #[.bool false,nZ,eT]
 own:SOwns w' (w.1.size+1+1) 90 u xs
 bel:Bw w w'
theorem Nb.below{w w' w1:Wd}{d:Bool}{t:BA}{u:Va}{xs:List Sl}(h:Nb w w' d t u xs)(hb:Bw w' w1):Nb w w1 d t u xs:=⟨h.box.over hb,h.res.over hb,h.own.below hb nR,h.bel.trans (hb.mono h.bel.size)⟩
theorem Nb.set{w w':Wd}{d:Bool}{t:BA}{g c:Nat}{xs:List Sl}(h:Nb w w' d t (sL (aA g 0) xs c) xs)(j:Nat)(hj:j<xs.length):Nb w (w'.setCell ⟨g,j*2,none⟩ (.string xs[j].1)) d t (sL (aA g 0) xs c) xs:=by
 have hg:=(h.own.lt g rfl).1;have h2:=(h.own.set_name j hj xs[j].1).1;have e:xs.set j (xs[j].1,xs[j].2)=xs:=by rw[show(xs[j].1,xs[j].2)=xs[j]from rfl,List.set_getElem_self]
 rw[e]at h2;exact⟨h.box.other oM _,h.res.other oM _,h2,h.bel.setCell oG _⟩
theorem newK_any(d:Bool)(t:BA)(v:Va)(xs:List Sl)(w:Wd)(hv:RSl w v xs)(hB:bigB 1048576 (d,xs,t)):
  Calls Tryz.prog 104 #[.agg #[.bool d,v,.string t]] w fun e w'=>∃u,e=.returned (.agg #[.bool d,u,.string t])/\SOwns w' w.1.size 90 u xs/\Bw w w':=by
 have HV:=hJ hv;have HB:=hJ hB;obtain⟨a,c,rfl,-⟩:=hv;have aL:xs.length<=1048576:=hB.1;clear hB;go_enter Tryz.func104,Tryz.ntmps104
 go_wp2_with fail
 refine(ze4 t _ (lT HB.o.2.2 dC)).mono ?_;rintro e w1 ⟨rfl,B1⟩;obtain⟨k0,k1⟩:=AtC.two3 w 95 95 #[.bool d,sL a xs c,.string t] #[.bool false,nZ,eT] (.cells #[] 90);have K0:AtC w1 w.1.size 95 #[.bool d,sL a xs c,.string t]:=((AtC.new w 95 _).alloc _).over B1;have K1:AtC w1 (w.1.size+1) 95 #[.bool false,nZ,eT]:=by
  have:=(AtC.new (w.alloc (.cells #[.bool d,sL a xs c,.string t] 95)) 95 #[.bool false,nZ,eT]).over B1;simpa using this
 have BW:Bw w w1:=(((bF _ w).alloc nR _).alloc sI _).trans (B1.mono sO);obtain⟨-,p1,p2⟩:=K0.k3;have y2:=K0.frozen 2;have KS:=K0.set 2 (.string t);have HK:Hid ((fun(wW:Wd)=>AtC wW w.1.size 95 #[.bool d,sL a xs c,.string t]/\AtC wW (w.1.size+1) 95 #[.bool false,nZ,eT]/\Bw w wW) (w1.setCell ⟨w.1.size,2,none⟩ (.string t))):=⟨K0.set 2 (.string t),K1.other oM _,BW.setCell sI _⟩
 have aH:w.1.size+1+1<=w1.1.size:=by have:=B1.size;simpa using this
 have x1:=HK.o.1;obtain⟨W1,aC⟩:∃W1,w1.setCell ⟨w.1.size,2,none⟩ (.string t)=W1:=⟨_,rfl⟩
 have aD:W1.1.size=w1.1.size:=by rw[←aC];simp
 rw[aC]at HK x1;have r1:=x1.c1;clear B1 K0 K1 BW KS k0 k1 x1;go_wp2_with fail
 refine(newS_any _ xs _ (HV.o.below HK.o.2.2 nR) HB.o.1).mono ?_;rintro e w2 ⟨u,rfl,O2,B2⟩;obtain⟨a2,c2,rfl⟩:=O2.rsl.form;have ND:Nb w (w2.setCell ⟨w.1.size,1,none⟩ (sL a2 xs c2)) d t (sL a2 xs c2) xs:=by
  have O3:SOwns w2 (w.1.size+1+1) 90 (sL a2 xs c2) xs:=O2.base_le oM;exact⟨(HK.o.1.over B2).set 1 _,(HK.o.2.1.over B2).other oM _,O3.setCell_low oM _,(HK.o.2.2.trans (B2.mono HK.o.2.2.size)).setCell sI _⟩
 have x2:=HK.o.1.over B2;have s1:=x2.c1;have f1:=x2.frozen 1;obtain⟨W2,aK⟩:∃W2,w2.setCell ⟨w.1.size,1,none⟩ (sL a2 xs c2)=W2:=⟨_,rfl⟩
 rw[aK]at ND;have HN:=hJ ND;have t1:=ND.box.c1;clear x2 O2 B2 ND HK r1 p1 p2 y2 aC aD aH;go_wp2;go_loopw [16] (fun i wr=>∃j:Nat,j<=xs.length/\i=.int .i64 j/\Hid (Nb w wr d t (.slice a2 xs.length c2) xs)) (fun i _=>xs.length-(intOf i).toNat)
 case atStart=>exact⟨0,zL _,rfl,HN.o⟩
 obtain⟨j,hj,rfl,HR⟩:=hrel;by_cases hlt:j<xs.length
 ·obtain⟨g,c3,e3,m1,m2,m3,m4,m5,-⟩:=HR.o.own.at j hlt;simp only[vJ]at e3;obtain⟨rfl,-,rfl⟩:=e3;have HZ:Hid (∀w6,Bw (wr.n #[.string xs[j].1,nI xs[j].2] 90) w6->Nb w w6 d t (sL (aA g 0) xs c2) xs/\Nb w (w6.setCell ⟨g,j*2,none⟩ (.string xs[j].1)) d t (sL (aA g 0) xs c2) xs/\AtC w6 wr.1.size 90 #[.string xs[j].1,nI xs[j].2]/\AtC (w6.setCell ⟨g,j*2,none⟩ (.string xs[j].1)) wr.1.size 90 #[.string xs[j].1,nI xs[j].2]):=fun w6 b6 =>
   have n6:=(HR.o.below ((bF _ wr).alloc nR _)).below b6;have a6:=(AtC.new wr 90 #[.string xs[j].1,nI xs[j].2]).over b6
   ⟨n6,n6.set j hlt,a6,a6.other oM _⟩
  have aF:Hid (xs[j].1.size<=281474976710656):=lT (HB.o.2.1 j hlt) dC;obtain⟨nm,aB⟩:∃nm,xs[j].1=nm:=⟨_,rfl⟩
  obtain⟨z,hz⟩:∃z,xs[j].2=z:=⟨_,rfl⟩
  rw[aB]at m1 HZ aF;rw[hz]at m2 HZ;have HS:Hid (∀w6,Bw (wr.n #[.string nm,nI z] 90) w6->(w6.q w.1.size 1=some (sL (aA g 0) xs c2)/\w6.q wr.1.size 0=some (.string nm))/\((w6.setCell ⟨g,j*2,none⟩ (.string nm)).q w.1.size 1=some (sL (aA g 0) xs c2)/\(w6.setCell ⟨g,j*2,none⟩ (.string nm)).q wr.1.size 0=some (.string nm))/\w6.q g (j*2)=some (.string nm)/\w6.frozen? ⟨g,j*2,none⟩=false):=fun w6 b6=>by
   obtain⟨h1,h2,h3,h4⟩:=HZ.o w6 b6;obtain⟨g',c',e',n1,n2,n3,-⟩:=h1.own.at j hlt;simp only[vJ,oJ,aJ]at e';obtain⟨⟨rfl,-,-⟩,-,-⟩:=e';rw[aB]at n1;exact⟨⟨h1.box.cell 1,h3.cell 0⟩,⟨h2.box.cell 1,h4.cell 0⟩,n1,n3 _⟩
  have b1:=HR.o.box.c1;have j0:(0:Int)<=(j:Int):=oM
  have j1:(j:Int)<(xs.length:Int):=oM
  have aM:=HR.o.box.lt;clear aB hz m3 HR HV HB t1;go_wp2_with fail
  go_region_held3 (fun w'=>w'.cell? ⟨w.1.size,1,none⟩=some (.slice (some ⟨g,0,none⟩) xs.length c2)/\w'.cell? ⟨wr.1.size,0,none⟩=some (.string nm)) (first| exact(HS.o _ bR.drew).1|exact(HS.o _ (zac B6)).1|exact(HS.o _ (zac B6)).2.1) ((go_at_call 54;refine(ze4 nm _ aF.o).mono ?_;rintro e w6 ⟨rfl,B6⟩;obtain⟨-,-,n1,n2⟩:=HS.o _ (zac B6)))
  have aG:=hJ (HZ.o _ (zac B6)).2.1;clear B6 n1 n2;go_wp2;go_roundw
  case rel=>exact⟨j+1,oM,gK,aG.o⟩
  simp[intOf];omega
 obtain⟨q0,q1,q2⟩:=HR.o.box.k3;obtain⟨r0,r1,r2⟩:=HR.o.res.k3;obtain⟨z0,z1,z2⟩:=HR.o.res.f3;clear t1;go_wp2;refine bY (v:=.agg #[.bool d,sL a2 xs c2,.string t]) (by simp[results,go_sem,r0,r1,r2]) rfl ⟨_,rfl,?_,?_⟩
 ·exact(((HR.o.own.setCell_low oM _).setCell_low oM _).setCell_low oM _).base_le oM
 exact((HR.o.bel.setCell sI _).setCell sI _).setCell sI _
namespace Kit
def MkE(T:TypeId):Mk:=.val [] (fun lo hi w v=>v=.slice (aA lo 0) 0 0/\hi=lo+1/\AtC w lo T #[]) (fun _ _ _ _ _ h hb=>⟨h.1,h.2.1,h.2.2.over hb⟩)
def MkC(k j:Nat)(xs:List Bool)(B:Nat):Mk:=.val1 [k,j] k sI (fun lo hi w u v=>∃a c,v=.slice a xs.length c/\ROwns w B 4 v (fc xs)/\∀i,v.ownBlock=some i->(lo<=i/\i<hi)\/u.ownBlock=some i)
 (fun _ _ _ _ _ _ h hb=>by obtain⟨a,c,h1,h2,h3⟩:=h;exact⟨a,c,h1,h2.below hb nR,h3⟩)
theorem AtC.empty{w:Wd}{g:Nat}{T:TypeId}(h:AtC w g T #[])(B:Nat)(hB:B<=g)(m:Nat):w.ownsRow B T m (.slice (aA g 0) 0 0) 0 [] :=
 ⟨sI,.inr ⟨g,0,#[],rfl,hB,h,Nat.le_refl _,zL _,sI,sI⟩⟩
end Kit
theorem zl0(u v:Va)(xs ys:List Bool)(w:Wd)(hu:RFl w u xs)(hv:RFl w v ys)(hx:xs.length<=1048576)(hy:ys.length<=1048576):
  Calls Tryz.prog 78 #[.agg #[u,v]] w fun e w'=>∃u' v',e=.returned (.agg #[u',v'])/\Two w' w.1.size u' v' xs ys/\Bw w w':=by
 have HU:=hJ hu;have HV:=hJ hv;obtain⟨a1,c1,rfl,-⟩:=hu;obtain⟨a2,c2,rfl,-⟩:=hv;have HX:Hid (xs.length<=100000000000):=lT hx dC;have HY:Hid (ys.length<=100000000000):=lT hy dC;clear hx hy;go_enter Tryz.func78,Tryz.ntmps78
 go_wp2_with fail
 have HC:Hid (∀W,Bw ((w.n #[sL a1 xs c1,sL a2 ys c2] 26).n #[nZ,nZ] 26).drew W->AtC W w.1.size 26 #[sL a1 xs c1,sL a2 ys c2]/\AtC W (w.1.size+1) 26 #[nZ,nZ]/\Bw w W/\w.1.size+1+1<=W.1.size):=fun W b=>by
  have b2:=zac b;have k1:=(AtC.new (w.alloc (.cells #[sL a1 xs c1,sL a2 ys c2] 26)) 26 #[nZ,nZ]).over b2;have sz:=b2.size;simp at k1 sz;exact⟨((AtC.new w 26 _).alloc _).over b2,k1,(((bF _ w).alloc nR _).alloc sI _).trans (b2.mono sO),sz⟩
 refine zgt kL [0,1,2,3,4,5,6,7] [8,9] [3,4,5,6,7,8,9,10] (fun i=>match i with|0=>MkE 4|1=>.const [] (.pointer (some ⟨w.1.size,0,none⟩))|2=>.const [1] (.slice a1 xs.length c1)|3=>MkC 0 2 xs (w.1.size+1+1)|4=>MkE 4|5=>.const [] (.pointer (some ⟨w.1.size,1,none⟩))|6=>.const [5] (.slice a2 ys.length c2)|7=>MkC 4 6 ys (w.1.size+1+1)|_=>.triv) kL kL kL kL rfl ?_ ?_
 ·intro j hj s x iv W hd hp K hK;simp only[mN,nN,or_false]at hj;rcases hj with rfl|rfl|rfl|rfl|rfl|rfl|rfl|rfl
  ·exact cQ55
  ·refine wpOp_step (o:=_) rfl fun K' hK'=>?_;have HK:=hJ (fun v W' h1 h2=>hK' _ _ (hK v W' h1 h2));simp only[actOf];go_simp;have F:=HK.o (.pointer (aA w.1.size 0)) W bR rfl;simp[go_sem,actOf,upd]at F;exact F
  ·refine wpOp_step (o:=_) rfl fun K' hK'=>?_;have HK:=hJ (fun v W' h1 h2=>hK' _ _ (hK v W' h1 h2));have e1:x 1=.pointer (aA w.1.size 0):=hp.post 1 (hd 1 mz0);have q0:=(HC.o W hp.bel).1.c0;simp only[actOf];go_simp;have F:=HK.o (sL a1 xs c1) W bR rfl;simp[go_sem,actOf,upd,e1]at F;exact F
  ·refine wpOp_step (o:=_) rfl fun K' hK'=>?_;have HK:=hJ (fun v W' h1 h2=>hK' _ _ (hK v W' h1 h2));have e0:x 0=.slice (aA ((iv 0).1) 0) 0 0/\(iv 0).2=(iv 0).1+1/\AtC W (iv 0).1 4 #[]:=hp.post 0 (hd 0 mz0);have e2:x 2=sL a1 xs c1:=hp.post 2 (hd 2 mz1);have bl:=HC.o W hp.bel;have l0:=(hp.lo 0 (hd 0 mz0)).1;simp[World.drew]at l0;obtain⟨f0,-,A0⟩:=e0;simp only[actOf,Act.put,sA,cS,cZ,Nat.reduceAdd,List.getElem_toArray,gC,List.getElem_cons_zero];refine zbf (a:=⟨_,[]⟩) W rfl (.tmp 3) (.tmp 5) 24 rfl (w.1.size+1+1) 4 Tryz.underlying24 _ 1 1 Tryz.i4 rfl dC dC (aA ((iv 0).1) 0) (by exact f0) (A0.empty _ oM 1) bl.2.2.2 (sL a1 xs c1) (by exact e2) xs.length (fc xs) (HU.o.below bl.2.2.1 nR).rc (by rw[zad,Nat.mul_one]) (zjf xs) HX.o ?_;intro v' w' R1 R2 R3;have O1:ROwns w' (w.1.size+1+1) 4 v' (fc xs):=by unfold ROwns;rw[zad];exact R1
   obtain⟨a3,c3,e3⟩:=O1.rfl.form;have F:=HK.o v' w' R2 ⟨a3,c3,e3,O1,fun i hi=>R3.elim (fun e=>.inr (by rw[zaq _ _ _ _ dC,f0];rw[hi]at e;exact e.symm)) (fun e=>.inl ⟨by rw[hi]at e;cases e;exact Nat.le_refl _,(O1.lt i hi).2⟩)⟩;simp[go_sem,actOf,upd]at F;simp only[Act.put,sA,cS,cZ];exact F
  ·exact cQ55
  ·refine wpOp_step (o:=_) rfl fun K' hK'=>?_;have HK:=hJ (fun v W' h1 h2=>hK' _ _ (hK v W' h1 h2));simp only[actOf];go_simp;have F:=HK.o (.pointer (aA w.1.size 1)) W bR rfl;simp[go_sem,actOf,upd]at F;exact F
  ·refine wpOp_step (o:=_) rfl fun K' hK'=>?_;have HK:=hJ (fun v W' h1 h2=>hK' _ _ (hK v W' h1 h2));have e5:x 5=.pointer (aA w.1.size 1):=hp.post 5 (hd 5 mz0);have q0:=(HC.o W hp.bel).1.c1;simp only[actOf];go_simp;have F:=HK.o (sL a2 ys c2) W bR rfl;simp[go_sem,actOf,upd,e5]at F;exact F
  refine wpOp_step (o:=_) rfl fun K' hK'=>?_;have HK:=hJ (fun v W' h1 h2=>hK' _ _ (hK v W' h1 h2));have e4:x 4=.slice (aA ((iv 4).1) 0) 0 0/\(iv 4).2=(iv 4).1+1/\AtC W (iv 4).1 4 #[]:=hp.post 4 (hd 4 mz0);have e6:x 6=sL a2 ys c2:=hp.post 6 (hd 6 mz1);have bl:=HC.o W hp.bel;have l0:=(hp.lo 4 (hd 4 mz0)).1;simp[World.drew]at l0;obtain⟨f0,-,A0⟩:=e4;simp only[actOf,Act.put,sA,cS,cZ,Nat.reduceAdd,List.getElem_toArray,gC,List.getElem_cons_zero];refine zbf (a:=⟨_,[]⟩) W rfl (.tmp 7) (.tmp 9) 24 rfl (w.1.size+1+1) 4 Tryz.underlying24 _ 1 1 Tryz.i4 rfl dC dC (aA ((iv 4).1) 0) (by exact f0) (A0.empty _ oM 1) bl.2.2.2 (sL a2 ys c2) (by exact e6) ys.length (fc ys) (HV.o.below bl.2.2.1 nR).rc (by rw[zad,Nat.mul_one]) (zjf ys) HY.o ?_;intro v' w' R1 R2 R3;have O1:ROwns w' (w.1.size+1+1) 4 v' (fc ys):=by unfold ROwns;rw[zad];exact R1
  obtain⟨a3,c3,e3⟩:=O1.rfl.form;have F:=HK.o v' w' R2 ⟨a3,c3,e3,O1,fun i hi=>R3.elim (fun e=>.inr (by rw[zaq _ _ _ _ dC,f0];rw[hi]at e;exact e.symm)) (fun e=>.inl ⟨by rw[hi]at e;cases e;exact Nat.le_refl _,(O1.lt i hi).2⟩)⟩;simp[go_sem,actOf,upd]at F;simp only[Act.put,sA,cS,cZ];exact F
 intro x iv W hp;obtain⟨a3,c3,e3,O3,aC⟩:=hp.post 3 dC;obtain⟨a7,c7,e7,O7,aB⟩:=hp.post 7 dC;obtain⟨f0,z0,-⟩:=hp.post 0 dC;obtain⟨f4,z4,-⟩:=hp.post 4 dC;have aK:=hp.apart 0 dC 4 dC dC;have aL:=hp.apart 0 dC 7 dC dC;have aH:=hp.apart 3 dC 4 dC dC;have aG:=hp.apart 3 dC 7 dC dC;have l3:=(hp.lo 3 dC).2.1;have l7:=(hp.lo 7 dC).2.1;have aD:∀k,(x 3).ownBlock=some k->(x 7).ownBlock≠some k:=fun k h1 h2=>by
  have q3:=aC k h1;have q7:=aB k h2;rw[f0]at q3;rw[f4]at q7;simp only[Value.ownBlock,oJ]at q3 q7;omega
 obtain⟨k0,k1,aF,-⟩:=HC.o W hp.bel;rw[e3]at O3 aD;rw[e7]at O7 aD;have HT:Hid (Two W (w.1.size+1+1) (sL a3 xs c3) (sL a7 ys c7) xs ys/\Bw w W):=⟨⟨O3,O7,aD⟩,aF⟩
 obtain⟨r0,r1⟩:=k1.k2;obtain⟨z5,z6⟩:=k1.f2;clear hp aC aB O3 O7 aD k0 k1 aF f0 f4 z0 z4 aK aL aH aG l3 l7;simp only[actOf,e3,e7];go_wp2_with fail
 rw[List.filterMap_nil];go_wp2;refine bY (v:=.agg #[sL a3 xs c3,sL a7 ys c7]) (by simp[results,go_sem,r0,r1]) rfl ⟨_,_,rfl,?_,?_⟩
 ·exact((HT.o.1.set_other oM _).set_other oM _).base_le oM
 exact(HT.o.2.setCell sI _).setCell sI _
namespace Kit
theorem TOwns.of_at{w:Wd}{e:TypeId}{g:Nat}{cs:Array Va}{ts:List V3}(h:AtC w g e cs)(hc:cs.toList=f3 ts)(hm:ts.length<=maxLen):TOwns w e (.slice (aA g 0) ts.length ts.length) ts:=by
 have hs:cs.size=ts.length*3:=by rw[←Array.length_toList,hc,zcp]
 refine⟨by rw[zcp],.inr ⟨g,ts.length,cs,rfl,zL _,h,Nat.le_refl _,hm,hs,?_⟩⟩;rw[hc,tL (by rw[zcp];exact Nat.le_refl _)]
theorem GO.of_at{α:Type}{K:Kd α}{w:Wd}{g n:Nat}{cs:Array Va}{z:V3}{x:α}(h:AtC w g K.T cs)(hc:cs.toList=f3 (List.replicate n z))(hm:n<=maxLen)(hO:K.O w z x)(hz:(K.p z).ownBlock=none):
  GO K w (fun k=>k=g) (.slice (aA g 0) n n) (List.replicate n z) (List.replicate n x):=by
 refine⟨sI,?_,fun j hj aB=>?_,fun i j hi hj _ k e=>?_,fun j hj k e=>?_,fun k e=>?_,fun j hj k e=>?_⟩
 ·have:=TOwns.of_at (ts:=List.replicate n z) h hc (by simpa using hm);simpa using this
 ·simp only[List.getElem_replicate];exact hO
 ·exact cQ59
 ·exact cQ59
 ·simpa[Value.ownBlock]using e.symm
 exact cQ59
theorem DO.two{w:Wd}{S:Nat->Prop}{u v iv bv:Va}{xs ys:List Bool}{is:List Ino}{bs:List Blk}(h:DO w S u v iv bv xs ys is bs):Two w 0 u v xs ys:=by
 obtain⟨S1,S2,S3,ti,tb,h1,-⟩:=h;exact h1
theorem DO.atI{w:Wd}{S:Nat->Prop}{u v iv bv:Va}{xs ys:List Bool}{is:List Ino}{bs:List Blk}(h:DO w S u v iv bv xs ys is bs){g n cap:Nat}(hv:iv=.slice (aA g 0) n cap)(j:Nat)(hj:j<is.length):
  (∃a b p,w.cell? ⟨g,j*3,none⟩=some (nI a)/\w.cell? ⟨g,j*3+1,none⟩=some (nI b)/\w.cell? ⟨g,j*3+2,none⟩=some p/\a=is[j].1/\b=is[j].2.1/\RInts w p is[j].2.2)/\(∀k,w.frozen? ⟨g,k,none⟩=false)/\g<w.1.size/\n=is.length/\S g:=by
 obtain⟨S1,S2,S3,ti,tb,h1,-,hi,-,-,-,hU⟩:=h;have hl:=hi.len;obtain⟨g',c',e',k1,k2,k3,k4,k5,-⟩:=hi.row.at j oM;rw[hv]at e';simp only[vJ,oJ,aJ]at e';obtain⟨⟨rfl,-⟩,hn,-⟩:=e';obtain⟨i1,i2,i3⟩:=hi.inn j oM hj;exact⟨⟨_,_,_,by rw[k1,i1],by rw[k2,i2],k3,rfl,rfl,i3.rints⟩,k4,k5,oM,hU _ (.inr (.inl (hi.so _ vR)))⟩
theorem DO.atB{w:Wd}{S:Nat->Prop}{u v iv bv:Va}{xs ys:List Bool}{is:List Ino}{bs:List Blk}(h:DO w S u v iv bv xs ys is bs){g n cap:Nat}(hv:bv=.slice (aA g 0) n cap)(j:Nat)(hj:j<bs.length):
  (∃a p t,w.cell? ⟨g,j*3,none⟩=some (.bool a)/\w.cell? ⟨g,j*3+1,none⟩=some p/\w.cell? ⟨g,j*3+2,none⟩=some (.string t)/\a=bs[j].1/\t=bs[j].2.2/\RSl w p bs[j].2.1)/\(∀k,w.frozen? ⟨g,k,none⟩=false)/\g<w.1.size/\n=bs.length/\S g:=by
 obtain⟨S1,S2,S3,ti,tb,h1,-,-,hi,-,-,hU⟩:=h;have hl:=hi.len;obtain⟨g',c',e',k1,k2,k3,k4,k5,-⟩:=hi.row.at j oM;rw[hv]at e';simp only[vJ,oJ,aJ]at e';obtain⟨⟨rfl,-⟩,hn,-⟩:=e';obtain⟨i1,i2,i3⟩:=hi.inn j oM hj;exact⟨⟨_,_,_,by rw[k1,i1],k2,by rw[k3,i3],rfl,rfl,i2.rsl⟩,k4,k5,oM,hU _ (.inr (.inr (hi.so _ vR)))⟩
theorem DO.putI{w w1:Wd}{S:Nat->Prop}{u v iv bv:Va}{xs ys:List Bool}{is:List Ino}{bs:List Blk}(h:DO w S u v iv bv xs ys is bs){g n cap:Nat}(hv:iv=.slice (aA g 0) n cap)(j:Nat)(hj:j<is.length)(t':V3)(x':Ino)
  (hb:Bw w w1) (hO:KI.O w1 t' x') (hn:∀k,t'.2.2.ownBlock=some k->w.1.size<=k) :
  DO (((w1.setCell ⟨g,j*3,none⟩ t'.1).setCell ⟨g,j*3+1,none⟩ t'.2.1).setCell ⟨g,j*3+2,none⟩ t'.2.2) (fun k=>S k\/w.1.size<=k) u v iv bv xs ys (is.set j x') bs:=by
 obtain⟨S1,S2,S3,ti,tb,h1,hs1,hi,hk,d1,d2,hU⟩:=h;have hg:g<w.1.size:=hi.row.lt g vR;have aC:S2 g:=hi.so g vR;have aB:∀k,k<w.1.size->k≠g->(((w1.setCell ⟨g,j*3,none⟩ t'.1).setCell ⟨g,j*3+1,none⟩ t'.2.1).setCell ⟨g,j*3+2,none⟩ t'.2.2).heap[k]?=w.1[k]?:=fun k aD hk =>
  (((hO_ _ ⟨g,j*3+2,none⟩ k _ uH).trans (hO_ _ ⟨g,j*3+1,none⟩ k _ uH)).trans (hO_ _ ⟨g,j*3,none⟩ k _ uH)).trans (hb.block k aD)
 have h12:∀m,(u.ownBlock=some m\/v.ownBlock=some m)->m<w.1.size:=fun m hm=>hm.elim (fun e=>(h1.a.lt m e).2) (fun e=>(h1.b.lt m e).2);have aG:=hi.bound.put hv j (by rw[hi.len];exact hj) t' x' hb hO hn (S':=fun k=>(S2 k/\k<w.1.size)\/w.1.size<=k) (fun k hk=>.inl hk) (fun k hk=>.inr hk);refine⟨fun k=>u.ownBlock=some k\/v.ownBlock=some k,_,fun k=>S3 k/\k<w.1.size,_,tb,⟨h1.a.of_heap fun k hk=>aB k (h12 k (.inl hk)) (fun e=>(d1 k (hs1 k (.inl hk))).1 (e ▸ aC)),h1.b.of_heap fun k hk=>aB k (h12 k (.inr hk)) (fun e=>(d1 k (hs1 k (.inr hk))).1 (e ▸ aC)),h1.ne⟩,fun k hk=>hk,aG,hk.bound.of_heap fun k hk aF=>aB k aF (fun e=>d2 g aC (e ▸ hk.1)),fun k hk=>⟨fun e=>?_,fun e=>(d1 k (hs1 k hk)).2 e.1⟩,fun k hk e=>?_,fun k hk=>?_⟩
 ·exact cQ139
 ·exact cQ146
 exact cQ78
theorem DO.putB{w w1:Wd}{S:Nat->Prop}{u v iv bv:Va}{xs ys:List Bool}{is:List Ino}{bs:List Blk}(h:DO w S u v iv bv xs ys is bs){g n cap:Nat}(hv:bv=.slice (aA g 0) n cap)(j:Nat)(hj:j<bs.length)(t':V3)(x':Blk)
  (hb:Bw w w1) (hO:KB.O w1 t' x') (hn:∀k,t'.2.1.ownBlock=some k->w.1.size<=k) :
  DO (((w1.setCell ⟨g,j*3,none⟩ t'.1).setCell ⟨g,j*3+1,none⟩ t'.2.1).setCell ⟨g,j*3+2,none⟩ t'.2.2) (fun k=>S k\/w.1.size<=k) u v iv bv xs ys is (bs.set j x'):=by
 obtain⟨S1,S2,S3,ti,tb,h1,aC,hi,hk,d1,d2,hU⟩:=h;have hg:g<w.1.size:=hk.row.lt g vR;have aF:S3 g:=hk.so g vR;have aB:∀k,k<w.1.size->k≠g->(((w1.setCell ⟨g,j*3,none⟩ t'.1).setCell ⟨g,j*3+1,none⟩ t'.2.1).setCell ⟨g,j*3+2,none⟩ t'.2.2).heap[k]?=w.1[k]?:=fun k aG hk =>
  (((hO_ _ ⟨g,j*3+2,none⟩ k _ uH).trans (hO_ _ ⟨g,j*3+1,none⟩ k _ uH)).trans (hO_ _ ⟨g,j*3,none⟩ k _ uH)).trans (hb.block k aG)
 have aD:∀m,(u.ownBlock=some m\/v.ownBlock=some m)->m<w.1.size:=fun m hm=>hm.elim (fun e=>(h1.a.lt m e).2) (fun e=>(h1.b.lt m e).2);have aK:=hk.bound.put hv j (by rw[hk.len];exact hj) t' x' hb hO hn (S':=fun k=>(S3 k/\k<w.1.size)\/w.1.size<=k) (fun k hk=>.inl hk) (fun k hk=>.inr hk);refine⟨fun k=>u.ownBlock=some k\/v.ownBlock=some k,fun k=>S2 k/\k<w.1.size,_,ti,_,⟨h1.a.of_heap fun k hk=>aB k (aD k (.inl hk)) (fun e=>(d1 k (aC k (.inl hk))).2 (e ▸ aF)),h1.b.of_heap fun k hk=>aB k (aD k (.inr hk)) (fun e=>(d1 k (aC k (.inr hk))).2 (e ▸ aF)),h1.ne⟩,fun k hk=>hk,hi.bound.of_heap fun k hk aH=>aB k aH (fun e=>d2 k hk.1 (e.symm ▸ aF)),aK,fun k hk=>⟨fun e=>(d1 k (aC k hk)).1 e.1,fun e=>?_⟩,fun k hk e=>?_,fun k hk=>?_⟩
 ·rcases e with e|e
  ·exact(d1 k (aC k hk)).2 e.1
  have:=aD k hk;omega
 ·rcases e with e|e
  ·exact d2 k hk.1 e.1
  have:=hk.2;omega
 rcases hk with hk|hk|(hk|hk)
 ·exact .inl (hU k (.inl (aC k hk)))
 ·exact .inl (hU k (.inr (.inl hk.1)))
 ·exact .inl (hU k (.inr (.inr hk.1)))
 exact .inr hk
end Kit
namespace Kit
theorem zas{P:Program}(W:Wd){ops:Array Oper}{o:Oper}{a:Act}{K:Act->Wd->Prop}{Q:Exit->Act->Wd->Prop}{E:Prop}(hgd:o.guard=none)(s x:Operand)(t:TypeId)
  (ho:o.op=.call { callee:=.builtin .append,args:=#[s,x],argTypes:=#[t,t] }) (e:TypeId) (ht:P.underlying t=some (.slice e)) (z:Va) (bytes:Nat)
  (hi:(P.info? e).map (fun i=>(i.zero,i.size,i.bytes))=some (some z,3,bytes)) (hzc:z.cells.size=3) (hby:bytes<=64) (v:Va) (ts:List V3) (hs:a.eval s=v) (hown:TOwns W e v ts)
  (g:Nat) (y:V3) (hx:a.eval x=.slice (aA g 0) 1 1) (hc:W.cell? ⟨g,0,none⟩=some y.1/\W.cell? ⟨g,1,none⟩=some y.2.1/\W.cell? ⟨g,2,none⟩=some y.2.2) (h1:y.1.oneCell'=true/\y.2.1.oneCell'=true/\y.2.2.oneCell'=true) (hl:ts.length<=1000000000000)
  (h:∀v' w',TOwns w' e v' (ts++[y])->W.grownBy w' v.ownBlock->(∀k,v'.ownBlock=some k->v.ownBlock=some k\/W.1.size<=k)->K (a.put o.dst v') w') :
  if Region.wanted o (yielded ops a.tmps)=true then Oper.wp P o a W K Q else E:=by
 obtain⟨i0,hi,aG,aH,aF⟩:=info_parts hi;have aC:W.ownsRow 0 e 3 v ts.length (f3 ts):=hown;refine step_append_lies _ hgd s x t ho 0 e i0 z 3 bytes ht hi aG aH aF hzc dC v ts.length (f3 ts) hs aC ⟨g,0,none⟩ 1 1 (f3 [y]) hx rfl ?_ ?_ dC ?_ ?_ (zL _) W.1.size rfl ?_
 ·intro j u hj
  match j,hj with
  | 0,hj=>simp[f3]at hj;subst hj;simpa[Addr.add]using hc.1
  | 1,hj=>simp[f3]at hj;subst hj;simpa[Addr.add]using hc.2.1
  | 2,hj=>simp[f3]at hj;subst hj;simpa[Addr.add]using hc.2.2
  | j+3,hj=>simp[f3]at hj
 ·intro u hu;simp only[f3,mN,nN,or_false]at hu;rcases hu with rfl|rfl|rfl
  ·exact h1.1
  ·exact h1.2.1
  exact h1.2.2
 ·unfold maxLen;omega
 ·have:(ts.length+1)*bytes<=1000000000001*64:=Nat.mul_le_mul oM hby;omega
 intro g' cap w' aD aB hat _;refine h _ w' ?_ aB fun k hk=>?_
 ·unfold TOwns;rw[lA,zlw];exact aD
 exact cQ60
theorem GO.append{α:Type}{K:Kd α}{w w1 w2:Wd}{S:Nat->Prop}{v v':Va}{ts:List V3}{xs:List α}{t':V3}{x':α}(h:GO K w S v ts xs)(hb:Bw w w1)(hO:K.O w1 t' x')(hn:∀k,(K.p t').ownBlock=some k->w.1.size<=k)
  (hr:TOwns w2 K.T v' (ts++[t'])) (hg:w1.grownBy w2 v.ownBlock) (hv:∀k,v'.ownBlock=some k->v.ownBlock=some k\/w1.1.size<=k):GO K w2 (fun k=>(S k/\k<w.1.size)\/w.1.size<=k) v' (ts++[t']) (xs++[x']):=by
 exact cQ5
theorem DO.appI{w:Wd}{S:Nat->Prop}{u v iv bv:Va}{xs ys:List Bool}{is:List Ino}{bs:List Blk}(h:DO w S u v iv bv xs ys is bs):
  ∃ti,TOwns w 59 iv ti/\ti.length=is.length/\∀(w1 w2:Wd)(aC:Va)(t':V3)(x':Ino),Bw w w1->KI.O w1 t' x'->(∀k,t'.2.2.ownBlock=some k->w.1.size<=k) ->
   TOwns w2 59 aC (ti++[t'])->w1.grownBy w2 iv.ownBlock->(∀k,aC.ownBlock=some k->iv.ownBlock=some k\/w1.1.size<=k)->DO w2 (fun k=>S k\/w.1.size<=k) u v aC bv xs ys (is++[x']) bs:=by
 obtain⟨S1,S2,S3,ti,tb,h1,hs1,hi,hk,d1,d2,hU⟩:=h;refine⟨ti,hi.row,hi.len,fun w1 w2 aC t' x' hb hO hn hr hg hv=>?_⟩;have aG:=hb.size;have h12:∀m,(u.ownBlock=some m\/v.ownBlock=some m)->m<w.1.size:=fun m hm=>hm.elim (fun e=>(h1.a.lt m e).2) (fun e=>(h1.b.lt m e).2);have aB:∀k,k<w.1.size->iv.ownBlock≠some k->w2.1[k]?=w.1[k]?:=fun k hk aF=>(hg.block k oM (fun e=>aF e.symm)).trans (hb.block k hk);refine⟨fun k=>u.ownBlock=some k\/v.ownBlock=some k,_,fun k=>S3 k/\k<w.1.size,_,tb,⟨h1.a.of_heap fun k hk=>aB k (h12 k (.inl hk)) (fun e=>(d1 k (hs1 k (.inl hk))).1 (hi.so k e)),h1.b.of_heap fun k hk=>aB k (h12 k (.inr hk)) (fun e=>(d1 k (hs1 k (.inr hk))).1 (hi.so k e)),h1.ne⟩,fun k hk=>hk,hi.append hb hO hn hr hg hv,hk.bound.of_heap fun k hk aD=>aB k aD (fun e=>d2 k (hi.so k e) hk.1),fun k hk=>⟨fun e=>?_,fun e=>(d1 k (hs1 k hk)).2 e.1⟩,fun k hk e=>?_,fun k hk=>?_⟩
 ·exact cQ139
 ·exact cQ146
 exact cQ78
theorem DO.setB{w w1:Wd}{S S':Nat->Prop}{u v iv bv bv':Va}{xs ys:List Bool}{is:List Ino}{bs bs':List Blk}(h:DO w S u v iv bv xs ys is bs)(hb:Bw w w1){tb':List V3}(hk':GO KB w1 S' bv' tb' bs')(hs':∀k,S' k->w.1.size<=k):
  DO w1 (fun k=>S k\/w.1.size<=k) u v iv bv' xs ys is bs':=by
 obtain⟨S1,S2,S3,ti,tb,h1,aB,hi,hk,d1,d2,hU⟩:=h;have aC:∀m,(u.ownBlock=some m\/v.ownBlock=some m)->m<w.1.size:=fun m hm=>hm.elim (fun e=>(h1.a.lt m e).2) (fun e=>(h1.b.lt m e).2);refine⟨fun k=>u.ownBlock=some k\/v.ownBlock=some k,fun k=>S2 k/\k<w.1.size,S',ti,tb',h1.below hb nR,fun k hk=>hk,hi.bound.below hb nR,hk',fun k hk=>⟨fun e=>(d1 k (aB k hk)).1 e.1,fun e=>?_⟩,fun k hk e=>?_,fun k hk=>?_⟩
 ·have:=aC k hk;have:=hs' k e;omega
 ·have:=hk.2;have:=hs' k e;omega
 rcases hk with hk|hk|hk
 ·exact .inl (hU k (.inl (aB k hk)))
 ·exact .inl (hU k (.inr (.inl hk.1)))
 exact .inr (hs' k hk)
end Kit
namespace Kit
theorem DO.appB{w:Wd}{S:Nat->Prop}{u v iv bv:Va}{xs ys:List Bool}{is:List Ino}{bs:List Blk}(h:DO w S u v iv bv xs ys is bs):
  ∃tb,TOwns w 95 bv tb/\tb.length=bs.length/\∀(w1 w2:Wd)(aD:Va)(t':V3)(x':Blk),Bw w w1->KB.O w1 t' x'->(∀k,t'.2.1.ownBlock=some k->w.1.size<=k) ->
   TOwns w2 95 aD (tb++[t'])->w1.grownBy w2 bv.ownBlock->(∀k,aD.ownBlock=some k->bv.ownBlock=some k\/w1.1.size<=k)->DO w2 (fun k=>S k\/w.1.size<=k) u v iv aD xs ys is (bs++[x']):=by
 obtain⟨S1,S2,S3,ti,tb,h1,aC,hi,hk,d1,d2,hU⟩:=h;refine⟨tb,hk.row,hk.len,fun w1 w2 aD t' x' hb hO hn hr hg hv=>?_⟩;have aK:=hb.size;have aF:∀m,(u.ownBlock=some m\/v.ownBlock=some m)->m<w.1.size:=fun m hm=>hm.elim (fun e=>(h1.a.lt m e).2) (fun e=>(h1.b.lt m e).2);have aB:∀k,k<w.1.size->bv.ownBlock≠some k->w2.1[k]?=w.1[k]?:=fun k hk aH=>(hg.block k oM (fun e=>aH e.symm)).trans (hb.block k hk);refine⟨fun k=>u.ownBlock=some k\/v.ownBlock=some k,fun k=>S2 k/\k<w.1.size,_,ti,_,⟨h1.a.of_heap fun m hm=>aB m (aF m (.inl hm)) (fun e=>(d1 m (aC m (.inl hm))).2 (hk.so m e)),h1.b.of_heap fun m hm=>aB m (aF m (.inr hm)) (fun e=>(d1 m (aC m (.inr hm))).2 (hk.so m e)),h1.ne⟩,fun k hk=>hk,hi.bound.of_heap fun m hm aG=>aB m aG (fun e=>d2 m hm.1 (hk.so m e)),hk.append hb hO hn hr hg hv,fun m hm=>⟨fun e=>(d1 m (aC m hm)).1 e.1,fun e=>?_⟩,fun m hm e=>?_,fun m hm=>?_⟩
 ·rcases e with e|e
  ·exact(d1 m (aC m hm)).2 e.1
  have:=aF m hm;omega
 ·rcases e with e|e
  ·exact d2 m hm.1 e.1
  have:=hm.2;omega
 rcases hm with hm|hm|(hm|hm)
 ·exact .inl (hU m (.inl (aC m hm)))
 ·exact .inl (hU m (.inr (.inl hm.1)))
 ·exact .inl (hU m (.inr (.inr hm.1)))
 exact .inr hm
theorem DO.soI{w:Wd}{S:Nat->Prop}{u v iv bv:Va}{xs ys:List Bool}{is:List Ino}{bs:List Blk}(h:DO w S u v iv bv xs ys is bs):∀k,(iv.ownBlock=some k\/bv.ownBlock=some k)->S k:=by
 obtain⟨S1,S2,S3,ti,tb,a1,a2,a3,a4,a5,a6,a7⟩:=h;exact fun k hk=>hk.elim (fun e=>a7 k (.inr (.inl (a3.so k e)))) (fun e=>a7 k (.inr (.inr (a4.so k e))))
theorem DO.bits{w:Wd}{B:Nat}{u v:Va}{xs ys:List Bool}(h:Two w B u v xs ys):DO w (fun k=>B<=k) u v (.slice none 0 0) (.slice none 0 0) xs ys [] []:=by
 refine⟨fun k=>B<=k,fun _=>False,fun _=>False,[],[],h.base_le (zL _),fun k hk=>hk.elim (fun e=>(h.a.lt k e).1) (fun e=>(h.b.lt k e).1),?_,?_,fun k hk=>⟨id,id⟩,fun k hk=>hk.elim,fun k hk=>hk.elim id (fun e=>e.elim (fun e=>e.elim) (fun e=>e.elim))⟩
 ·exact cQ42
 exact cQ42
def noD:Array Va:=#[.slice none 0 0,.slice none 0 0,.slice none 0 0,.slice none 0 0]
structure Dz(w w':Wd)(A:Array Va)(b:Nat)(u v iv bv:Va)(xs ys:List Bool)(is:List Ino)(bs:List Blk):Prop where
 arg:AtC w' w.1.size 30 A
 res:AtC w' (w.1.size+1) 30 noD
 box:AtC w' b 30 #[u,v,iv,bv]
 dsk:DO w' (fun k=>w.1.size+1<k/\k≠b) u v iv bv xs ys is bs
 bel:Bw w w'
 hb:w.1.size+1<b
namespace Dz
variable {w w' w1 : World} {A : Array Value} {b : Nat} {u v iv bv : Value} {xs ys : List Bool} {is : List Ino} {bs : List Blk}
theorem below(h:Dz w w' A b u v iv bv xs ys is bs)(hb:Below w'.1.size w' w1):Dz w w1 A b u v iv bv xs ys is bs :=
 ⟨h.arg.over hb,h.res.over hb,h.box.over hb,h.dsk.below hb nR,h.bel.trans (hb.mono h.bel.size),h.hb⟩
theorem drew(h:Dz w w' A b u v iv bv xs ys is bs):Dz w w'.drew A b u v iv bv xs ys is bs:=h.below bR.drew
theorem alloc(h:Dz w w' A b u v iv bv xs ys is bs)(o:Obj):Dz w (w'.alloc o) A b u v iv bv xs ys is bs:=h.below (bR.alloc nR o)
theorem other(h:Dz w w' A b u v iv bv xs ys is bs){B j:Nat}(hB:w.1.size+1<B)(hb:B≠b)(hn:∀k,k=B->¬(w.1.size+1<k/\k≠b/\k<w1.1.size))(x:Value)(hw:Below w1.1.size w1 w')(h1:Dz w w1 A b u v iv bv xs ys is bs):Dz w (w'.setCell ⟨B,j,none⟩ x) A b u v iv bv xs ys is bs:=by
 exact cQ40
theorem appI(h:Dz w w' A b u v iv bv xs ys is bs):∃ti,TOwns w' 59 iv ti/\ti.length=is.length/\∀(w1 w2:World)(aB:Value)(t':V3)(x':Ino),Below w'.1.size w' w1->KI.O w1 t' x'->(∀k,t'.2.2.ownBlock=some k->w'.1.size<=k) ->
  TOwns w2 59 aB (ti++[t'])->w1.grownBy w2 iv.ownBlock->(∀k,aB.ownBlock=some k->iv.ownBlock=some k\/w1.1.size<=k) ->
  AtC w2 b 30 #[u,v,iv,bv]/\Dz w (w2.setCell ⟨b,2,none⟩ aB) A b u v aB bv xs ys (is++[x']) bs:=by
 obtain⟨ti,h1,h2,h3⟩:=h.dsk.appI;refine⟨ti,h1,h2,fun w1 w2 aB t' x' hb hO hn hr hg hv=>?_⟩;have aC:=fun k (hk:iv.ownBlock=some k)=>h.dsk.soI k (.inl hk);have aH:=h.box.lt;have aF:=h.bel.size;have aD:=hb.size;have aG:=h.res.lt;have aL:=h.arg.lt;have e0:AtC w2 w.1.size 30 A:=(hg.block _ oM (fun e=>by have:=aC _ e.symm;omega)).trans (h.arg.over hb);have e1:AtC w2 (w.1.size+1) 30 noD:=(hg.block _ oM (fun e=>by have:=aC _ e.symm;omega)).trans (h.res.over hb);have e2:AtC w2 b 30 #[u,v,iv,bv]:=(hg.block _ oM (fun e=>by have:=aC _ e.symm;omega)).trans (h.box.over hb);have d:=h3 w1 w2 aB t' x' hb hO hn hr hg hv;have b2:Below w.1.size w w2:=(h.bel.trans (hb.mono aF)).grown hg oM (fun k hk=>by have:=aC k hk;omega);have aK:=h.hb;refine⟨e2,⟨e0.other oM _,e1.other oM _,e2.set 2 aB,?_,b2.setCell oD _,h.hb⟩⟩;have d2:=d.mono (S':=fun k=>w.1.size+1<k/\k≠b) fun k hk=>hk.elim id (fun e=>⟨by omega,by omega⟩);exact d2.of_heap fun k hk _=>heap_setCell_other w2 ⟨b,2,none⟩ k aB (by show k≠b;omega)
theorem appB(h:Dz w w' A b u v iv bv xs ys is bs):∃tb,TOwns w' 95 bv tb/\tb.length=bs.length/\∀(w1 w2:World)(bv':Value)(t':V3)(x':Blk),Below w'.1.size w' w1->KB.O w1 t' x'->(∀k,t'.2.1.ownBlock=some k->w'.1.size<=k) ->
  TOwns w2 95 bv' (tb++[t'])->w1.grownBy w2 bv.ownBlock->(∀k,bv'.ownBlock=some k->bv.ownBlock=some k\/w1.1.size<=k) ->
  AtC w2 b 30 #[u,v,iv,bv]/\Dz w (w2.setCell ⟨b,3,none⟩ bv') A b u v iv bv' xs ys is (bs++[x']):=by
 obtain⟨ti,h1,h2,h3⟩:=h.dsk.appB;refine⟨ti,h1,h2,fun w1 w2 aC t' x' hb hO hn hr hg hv=>?_⟩;have aB:=fun k (hk:bv.ownBlock=some k)=>h.dsk.soI k (.inr hk);have aH:=h.box.lt;have aF:=h.bel.size;have aD:=hb.size;have aG:=h.res.lt;have aL:=h.arg.lt;have e0:AtC w2 w.1.size 30 A:=(hg.block _ oM (fun e=>by have:=aB _ e.symm;omega)).trans (h.arg.over hb);have e1:AtC w2 (w.1.size+1) 30 noD:=(hg.block _ oM (fun e=>by have:=aB _ e.symm;omega)).trans (h.res.over hb);have e2:AtC w2 b 30 #[u,v,iv,bv]:=(hg.block _ oM (fun e=>by have:=aB _ e.symm;omega)).trans (h.box.over hb);have d:=h3 w1 w2 aC t' x' hb hO hn hr hg hv;have b2:Below w.1.size w w2:=(h.bel.trans (hb.mono aF)).grown hg oM (fun k hk=>by have:=aB k hk;omega);have aK:=h.hb;refine⟨e2,⟨e0.other oM _,e1.other oM _,e2.set 3 aC,?_,b2.setCell oD _,h.hb⟩⟩;have d2:=d.mono (S':=fun k=>w.1.size+1<k/\k≠b) fun k hk=>hk.elim id (fun e=>⟨by omega,by omega⟩);exact d2.of_heap fun k hk _=>heap_setCell_other w2 ⟨b,3,none⟩ k aC (by show k≠b;omega)
end Dz
theorem dz_start{w w1:World}{A:Array Value}{u v:Value}{xs ys:List Bool}(B1:Below ((w.alloc (.cells A 30)).alloc (.cells noD 30)).1.size ((w.alloc (.cells A 30)).alloc (.cells noD 30)) w1)(T1:Two w1 ((w.alloc (.cells A 30)).alloc (.cells noD 30)).1.size u v xs ys):
  Dz w (w1.alloc (.cells #[u,v,.slice none 0 0,.slice none 0 0] 30)) A w1.1.size u v (.slice none 0 0) (.slice none 0 0) xs ys [] []:=by
 have aC:=B1.size;simp at aC;have k1:=(AtC.new (w.alloc (.cells A 30)) 30 noD).over B1;simp at k1;refine⟨(((AtC.new w 30 A).alloc _).over B1).alloc _,k1.alloc _,AtC.new w1 30 _,?_,((((Below.refl _ w).alloc nR _).alloc sI _).trans (B1.mono sO)).alloc oM _,by omega⟩;have T2:Two w1 (w.1.size+1+1) u v xs ys:=T1.base_le sI;obtain⟨S1,S2,S3,ti,tb,h1,h2,h3,h4,h5,h6,h7⟩:=DO.bits T2;have aB:∀k,(u.ownBlock=some k\/v.ownBlock=some k)->w.1.size+1<k/\k≠w1.1.size:=fun k hk=>hk.elim (fun e=>by have:=T2.a.lt k e;omega) (fun e=>by have:=T2.b.lt k e;omega);exact⟨fun k=>u.ownBlock=some k\/v.ownBlock=some k,fun _=>False,fun _=>False,[],[],(T2.base_le (Nat.zero_le _)).alloc _,fun k hk=>hk,⟨rfl,TOwns.nil _ _,fun j hj=>by simp at hj,fun i j hi=>by simp at hi,fun j hj=>by simp at hj,(fun k e=>by cases e),fun j hj=>by simp at hj⟩,⟨rfl,TOwns.nil _ _,fun j hj=>by simp at hj,fun i j hi=>by simp at hi,fun j hj=>by simp at hj,(fun k e=>by cases e),fun j hj=>by simp at hj⟩,fun k hk=>⟨id,id⟩,fun k hk=>hk.elim,fun k hk=>hk.elim (aB k) (fun e=>e.elim (fun e=>e.elim) (fun e=>e.elim))⟩
def MkI(k:Nat)(y s:Int)(z:List Int):Mk:=.val [k] (fun lo hi w v=>∃u,v=.agg #[.int .i64 y,.int .i64 s,u]/\ROwns w lo 3 u (ic z)/\∀i,u.ownBlock=some i->i<hi)
 (fun _ _ _ _ _ h hb=>by obtain⟨u,h1,h2,h3⟩:=h;exact⟨u,h1,h2.below hb nR,h3⟩)
def MkI1(k:Nat)(y s:Int):Mk:=.val1 [k] k sI (fun lo hi w u v=>v=.slice (some ⟨lo,0,none⟩) 1 1/\hi=lo+1/\∃p,u=.agg #[.int .i64 y,.int .i64 s,p]/\AtC w lo 59 #[.int .i64 y,.int .i64 s,p])
 (fun _ _ _ _ _ _ h hb=>by obtain⟨h1,h2,p,h3,h4⟩:=h;exact⟨h1,h2,p,h3,h4.over hb⟩)
def MkK(k:Nat)(d:Bool)(t:ByteArray)(z:List Sl):Mk:=.val [k] (fun lo hi w v=>∃u,v=.agg #[.bool d,u,.string t]/\SOwns w lo 90 u z/\∀i,u.ownBlock=some i->i<hi)
 (fun _ _ _ _ _ h hb=>by obtain⟨u,h1,h2,h3⟩:=h;exact⟨u,h1,h2.below hb nR,h3⟩)
def MkK1(k:Nat)(d:Bool)(t:ByteArray):Mk:=.val1 [k] k sI (fun lo hi w u v=>v=.slice (some ⟨lo,0,none⟩) 1 1/\hi=lo+1/\∃p,u=.agg #[.bool d,p,.string t]/\AtC w lo 95 #[.bool d,p,.string t])
 (fun _ _ _ _ _ _ h hb=>by obtain⟨h1,h2,p,h3,h4⟩:=h;exact⟨h1,h2,p,h3,h4.over hb⟩)
end Kit
theorem zbo(u v iv bv:Va)(xs ys:List Bool)(is:List Ino)(bs:List Blk)(w:Wd)(h:DR w u v iv bv xs ys is bs)(hB:Big 1048576 xs ys is bs):
  Calls Tryz.prog 51 #[.agg #[u,v,iv,bv]] w fun e w'=>∃u' v' i' b',e=.returned (.agg #[u',v',i',b'])/\DO w' (fun k=>w.1.size<=k) u' v' i' b' xs ys is bs/\Bw w w':=by
 have H:=hJ h;have HG:=hJ hB;have aU:=hB.i;have aV:=hB.b;obtain⟨a1,c1,a2,c2,a3,c3,a4,c4,rfl,rfl,rfl,rfl⟩:=h.form;clear hB h;go_enter Tryz.func51,Tryz.ntmps51
 go_wp2_with fail
 refine(zl0 _ _ xs ys _ ((H.out.a.alloc _).alloc _) ((H.out.b.alloc _).alloc _) HG.o.x HG.o.y).mono ?_;rintro e w1 ⟨u1,v1,rfl,T1,B1⟩;obtain⟨d1,f1,d2,f2,rfl,rfl⟩:=T1.form;have HD:=hJ (dz_start (A:=#[.slice a1 xs.length c1,.slice a2 ys.length c2,.slice a3 is.length c3,.slice a4 bs.length c4]) B1 T1);clear T1 B1;go_wp2_with fail
 generalize w1.1.size=b at*;generalize w1.alloc (.cells #[.slice d1 xs.length f1,.slice d2 ys.length f2,.slice none 0 0,.slice none 0 0] 30)=W1 at*;go_loopw [4] (fun i wr=>∃j:Nat,j<=is.length/\i=.int .i64 j/\Hid (∃iv,Dz w wr #[.slice a1 xs.length c1,.slice a2 ys.length c2,.slice a3 is.length c3,.slice a4 bs.length c4] b (.slice d1 xs.length f1) (.slice d2 ys.length f2) iv (.slice none 0 0) xs ys (is.take j) [])) (fun i _=>is.length-(intOf i).toNat)
 case atStart=>exact⟨0,zL _,rfl,_,HD.o⟩
 obtain⟨j,hj,rfl,HR⟩:=hrel;obtain⟨iv,aB⟩:=HR.o;by_cases hlt:j<is.length
 ·obtain⟨ti,k1,k2,k3⟩:=aB.drew.appI;obtain⟨gi,ci,rfl,-⟩:=k1.form;obtain⟨ai,aT,ei,-,aL⟩:=H.out.i.ino;obtain⟨g,off,p,rfl,hg,m1,m2,m3,hp⟩:=aL j hlt;simp only[vJ]at ei;obtain⟨rfl,-,rfl⟩:=ei;have aF:=HG.o.p j hlt;have aG:=tG hlt;obtain⟨X,hX⟩:∃X,is[j]=X:=⟨_,rfl⟩
  obtain⟨y,s,z⟩:=X;rw[hX]at m1 m2 hp aF aG;simp only at m1 m2 hp aF;obtain⟨pa,pc,rfl⟩:=hp.form;have aK:ti.length=j:=by rw[k2,lK];omega
  have HX:=hJ (aI k1 (aI k3 aK));have aH:=hJ aB;have HP:Hid (∀W,Bw w W->RInts W (.slice pa z.length pc) z):=fun W b=>hp.below b nR;have aP:=hJ aF;have aO:=hJ aG;have HC:Hid (∀W,Bw wr.drew W->W.cell? ⟨b,2,none⟩=some (.slice gi ti.length ci)/\W.cell? ⟨w.1.size,2,none⟩=some (.slice (some ⟨g,off,none⟩) is.length c3)/\W.cell? ⟨g,off+j*3,none⟩=some (.int .i64 y)/\W.cell? ⟨g,off+j*3+1,none⟩=some (.int .i64 s)/\W.cell? ⟨g,off+j*3+2,none⟩=some (.slice pa z.length pc)/\Bw w W):=fun W b=>by
   have hw:=aH.o.drew.below b;exact⟨hw.box.cell 2,hw.arg.cell 2,(hw.bel.cell (p:=⟨g,off+j*3,none⟩) hg).trans m1,(hw.bel.cell (p:=⟨g,off+j*3+1,none⟩) hg).trans m2,(hw.bel.cell (p:=⟨g,off+j*3+2,none⟩) hg).trans m3,hw.bel⟩
  have b0:=aH.o.arg.cell 2;simp at b0;have j0:(0:Int)<=(j:Int):=oM
  have j1:(j:Int)<(is.length:Int):=oM
  clear k1 k2 k3 aB HR aK m1 m2 m3 hp aF aG aL hX hg;go_wp2_with fail
  refine zau kL [0,1,2,3,4,5,6,7,8] [9,10,11] (fun i=>match i with|0=>.const [] (.pointer (some ⟨b,2,none⟩))|1=>.const [0] (.slice gi ti.length ci)|2=>.const [] (.pointer (some ⟨w.1.size,2,none⟩))|3=>.const [2] (.slice (some ⟨g,off,none⟩) is.length c3)|4=>.const [] (.int .i64 (j:Int))|5=>.const [3,4] (.pointer (some ⟨g,off+j*3,none⟩))|6=>.const [5] (.agg #[.int .i64 y,.int .i64 s,.slice pa z.length pc])|7=>MkI 6 y s z|8=>MkI1 7 y s|_=>.triv) (fun x=>⟨#[.agg #[.slice a1 xs.length c1,.slice a2 ys.length c2,.slice (some ⟨g,off,none⟩) is.length c3,.slice a4 bs.length c4],.pointer (some ⟨w.1.size,0,none⟩),.pointer (some ⟨w.1.size+1,0,none⟩),.pointer (some ⟨b,0,none⟩),.int .i64 ↑j,undef,.pointer (some ⟨w.1.size,0,none⟩),.agg #[.slice a1 xs.length c1,.slice a2 ys.length c2],.agg #[.slice d1 xs.length f1,.slice d2 ys.length f2],.agg #[.slice d1 xs.length f1,.slice d2 ys.length f2,.slice none 0 0,.slice none 0 0],.int .i64 ↑j,.pointer (some ⟨w.1.size,2,none⟩),.slice (some ⟨g,off,none⟩) is.length c3,.int .i64 ↑is.length,.bool true,u15,u16,x 0,x 1,x 2,x 3,x 4,x 5,x 6,x 7,x 8,u26,u27,undef,undef,undef,undef,undef,undef,undef,undef,undef,undef,undef,undef,undef,undef,undef,undef,undef,undef,undef],[]⟩) (fun i=>match i with|0=>u17|1=>u18|2=>u19|3=>u20|4=>u21|5=>u22|6=>u23|7=>u24|8=>u25|_=>undef) rfl kL kL kL rfl ?_ ?_
  ·intro jo hj so x iw W hd hp K hK;simp only[mN,nN,or_false]at hj;rcases hj with rfl|rfl|rfl|rfl|rfl|rfl|rfl|rfl|rfl<;>refine wpOp_step (o:=_) rfl fun K' hK'=>?_<;>have HK:=hJ (fun(v:Va) (W':Wd) h1 h2=>hK' _ _ (hK v W' h1 h2))<;>simp only[upd,Nat.reduceEqDiff,if_true,if_false]at HK
   ·exact cQ6
   ·have e0:x 0=.pointer (some ⟨b,2,none⟩):=hp.post 0 (hd 0 mz0);have q0:=(HC.o W hp.bel).1;simp only[e0]at HK ⊢;go_simp;exact HK.o _ _ bR rfl
   ·exact cQ6
   ·have e2:x 2=.pointer (some ⟨w.1.size,2,none⟩):=hp.post 2 (hd 2 mz0);have q0:=(HC.o W hp.bel).2.1;simp only[e2]at HK ⊢;go_simp;exact HK.o _ _ bR rfl
   ·exact cQ6
   ·have e3:x 3=.slice (some ⟨g,off,none⟩) is.length c3:=hp.post 3 (hd 3 mz0);have e4:x 4=.int .i64 (j:Int):=hp.post 4 (hd 4 mz1);simp only[e3,e4]at HK ⊢;go_simp;exact HK.o _ _ bR rfl
   ·exact cQ79
   ·have e6:x 6=.agg #[.int .i64 y,.int .i64 s,.slice pa z.length pc]:=hp.post 6 (hd 6 mz0);have bl:=(HC.o W hp.bel).2.2.2.2.2;simp only[e6]at HK ⊢;go_simp;refine(ze5 y s _ z W (HP.o W bl) aP.o).mono ?_;rintro e w6 ⟨p6,rfl,O6,B6⟩;go_simp;exact HK.o _ _ B6 ⟨p6,rfl,O6,fun i hi=>(O6.lt i hi).2⟩
   have e7:∃u,x 7=.agg #[.int .i64 y,.int .i64 s,u]/\ROwns W (iw 7).1 3 u (ic z)/\∀i,u.ownBlock=some i->i<(iw 7).2:=hp.post 7 (hd 7 mz0);obtain⟨p7,e7,O7,-⟩:=e7;obtain⟨pb,pd,rfl⟩:=O7.rints.form;clear O7;have HE:=hJ e7;simp only[e7]at HK ⊢;clear e7;go_simp;exact HK.o _ _ ((bF _ W).alloc nR _) ⟨rfl,sI,.slice pb z.length pd,by rw[zaq _ _ _ _ dC];exact HE.o,AtC.new W 59 _⟩
  intro x iw W hp;have e1:x 1=.slice gi ti.length ci:=hp.post 1 dC;obtain⟨p7,e7,O7,-⟩:=hp.post 7 dC;obtain⟨e8,-,p8,f8,A8⟩:=hp.post 8 dC;rw[e7]at f8;simp only[Value.agg.injEq,Array.mk.injEq,List.cons.injEq,and_true,true_and]at f8;subst f8;have l7:=(hp.lo 7 dC).1;have aC:=hp.bel;have O9:=O7.base_le l7;obtain⟨pb,pd,rfl⟩:=O9.rints.form;have hT:=HX.o.1.of_heap fun k hk=>aC.block k (HX.o.1.lt k hk);have HN:Hid (∀v' w',TOwns w' 59 v' (ti++[(.int .i64 y,.int .i64 s,.slice pb z.length pd)])->W.grownBy w' (Value.slice gi ti.length ci).ownBlock->(∀k,v'.ownBlock=some k->(Value.slice gi ti.length ci).ownBlock=some k\/W.1.size<=k)->(AtC w' b 30 #[.slice d1 xs.length f1,.slice d2 ys.length f2,.slice gi ti.length ci,.slice none 0 0])/\Dz w (w'.setCell ⟨b,2,none⟩ v') #[.slice a1 xs.length c1,.slice a2 ys.length c2,.slice (some ⟨g,off,none⟩) is.length c3,.slice a4 bs.length c4] b (.slice d1 xs.length f1) (.slice d2 ys.length f2) v' (.slice none 0 0) xs ys (is.take j++[(y,s,z)]) []):=fun v' w' h1 h2 h3=>HX.o.2.1 W w' v' _ (y,s,z) aC ⟨rfl,rfl,O9.base_le (zL _)⟩ (fun k hk=>(O9.lt k hk).1) h1 h2 h3;have aN:Hid (ti.length<=1000000000000):=by have:=HX.o.2.2;show ti.length<=_;omega
  have aD:=hJ A8;have HT:=hJ hT;generalize (iw 8).1=g8 at*;clear hT O9 O7 hp l7 aC A8 HX aH b0;simp only[e1,e7,e8];refine wS fun K' hK'=>?_;refine zas _ rfl (.tmp 18) (.tmp 25) 27 rfl 59 Tryz.u27 _ 40 Tryz.i59 rfl dC (.slice gi ti.length ci) ti rfl HT.o g8 (.int .i64 y,.int .i64 s,.slice pb z.length pd) rfl ⟨aD.o.cell 0,aD.o.cell 1,aD.o.cell 2⟩ ⟨rfl,rfl,rfl⟩ aN.o ?_;intro v9 w9 T9 G9 V9;refine hK' _ _ ?_;obtain⟨e9,D9⟩:=HN.o v9 w9 T9 G9 V9;obtain⟨g9,c9,rfl,-⟩:=T9.form;have aM:(ti++[((.int .i64 y,.int .i64 s,.slice pb z.length pd):V3)]).length=ti.length+1:=sI
  rw[aM]at D9 ⊢;clear aM;have z3:=e9.c2;have z2:=e9.frozen 2;have H9:=hJ D9;clear e9 D9 T9 G9 V9 HN aD HT aN hK' K' e1 e7 e8;go_wp2_with fail
  rw[List.filterMap_nil];go_wp2;go_roundw
  case rel=>exact⟨j+1,oM,gK,_,by rw[←aO.o];exact H9.o⟩
  simp[intOf];omega
 have aR:j=is.length:=oM
 subst aR;rw[List.take_length]at aB;obtain⟨a5,c5,a6,c6,a7,c7,a8,c8,-,-,rfl,-⟩:=aB.dsk.dr.form;have aS:=hJ aB;have b0:=aB.arg.c2;clear aB HR;go_wp2_with fail
 go_loopw [5] (fun i wr=>∃j:Nat,j<=bs.length/\i=.int .i64 j/\Hid (∃bv,Dz w wr #[.slice a1 xs.length c1,.slice a2 ys.length c2,.slice a3 is.length c3,.slice a4 bs.length c4] b (.slice d1 xs.length f1) (.slice d2 ys.length f2) (.slice a7 is.length c7) bv xs ys is (bs.take j))) (fun i _=>bs.length-(intOf i).toNat)
 case atStart=>exact⟨0,zL _,rfl,_,aS.o⟩
 obtain⟨j,hj,rfl,HR⟩:=hrel;obtain⟨bv,aB⟩:=HR.o;by_cases hlt:j<bs.length
 ·obtain⟨ti,k1,k2,k3⟩:=aB.drew.appB;obtain⟨gi,ci,rfl,-⟩:=k1.form;obtain⟨ai,aT,ei,-,aL⟩:=H.out.k.blk;obtain⟨g,off,p,rfl,hg,m1,m2,m3,hp⟩:=aL j hlt;simp only[vJ]at ei;obtain⟨rfl,-,rfl⟩:=ei;have aF:=HG.o.s j hlt;have aG:=tG hlt;obtain⟨X,hX⟩:∃X,bs[j]=X:=⟨_,rfl⟩
  obtain⟨y,z,s⟩:=X;rw[hX]at m1 m3 hp aF aG;simp only at m1 m3 hp;obtain⟨pa,pc,rfl⟩:=hp.form;have aK:ti.length=j:=by rw[k2,lK];omega
  have HX:=hJ (aI k1 (aI k3 aK));have aH:=hJ aB;have HP:Hid (∀W,Bw w W->RSl W (.slice pa z.length pc) z):=fun W b=>hp.below b nR;have aP:=hJ aF;have aO:=hJ aG;have HC:Hid (∀W,Bw wr.drew W->W.cell? ⟨b,3,none⟩=some (.slice gi ti.length ci)/\W.cell? ⟨w.1.size,3,none⟩=some (.slice (some ⟨g,off,none⟩) bs.length c4)/\W.cell? ⟨g,off+j*3,none⟩=some (.bool y)/\W.cell? ⟨g,off+j*3+1,none⟩=some (.slice pa z.length pc)/\W.cell? ⟨g,off+j*3+2,none⟩=some (.string s)/\Bw w W):=fun W b=>by
   have hw:=aH.o.drew.below b;exact⟨hw.box.cell 3,hw.arg.cell 3,(hw.bel.cell (p:=⟨g,off+j*3,none⟩) hg).trans m1,(hw.bel.cell (p:=⟨g,off+j*3+1,none⟩) hg).trans m2,(hw.bel.cell (p:=⟨g,off+j*3+2,none⟩) hg).trans m3,hw.bel⟩
  have b0:=aH.o.arg.cell 3;simp at b0;have j0:(0:Int)<=(j:Int):=oM
  have j1:(j:Int)<(bs.length:Int):=oM
  clear k1 k2 k3 aB HR aK m1 m2 m3 hp aF aG aL hX hg;go_wp2_with fail
  refine zau kL [0,1,2,3,4,5,6,7,8] [9,10,11] (fun i=>match i with|0=>.const [] (.pointer (some ⟨b,3,none⟩))|1=>.const [0] (.slice gi ti.length ci)|2=>.const [] (.pointer (some ⟨w.1.size,3,none⟩))|3=>.const [2] (.slice (some ⟨g,off,none⟩) bs.length c4)|4=>.const [] (.int .i64 (j:Int))|5=>.const [3,4] (.pointer (some ⟨g,off+j*3,none⟩))|6=>.const [5] (.agg #[.bool y,.slice pa z.length pc,.string s])|7=>MkK 6 y s z|8=>MkK1 7 y s|_=>.triv) (fun x=>⟨#[.agg #[.slice a1 xs.length c1,.slice a2 ys.length c2,.slice a3 is.length c3,.slice (some ⟨g,off,none⟩) bs.length c4],.pointer (some ⟨w.1.size,0,none⟩),.pointer (some ⟨w.1.size+1,0,none⟩),.pointer (some ⟨b,0,none⟩),.int .i64 ↑is.length,.int .i64 ↑j,.pointer (some ⟨w.1.size,0,none⟩),.agg #[.slice a1 xs.length c1,.slice a2 ys.length c2],.agg #[.slice d1 xs.length f1,.slice d2 ys.length f2],.agg #[.slice d1 xs.length f1,.slice d2 ys.length f2,.slice none 0 0,.slice none 0 0],.int .i64 ↑is.length,.pointer (some ⟨w.1.size,2,none⟩),.slice a3 is.length c3,.int .i64 ↑is.length,.bool false,u15,u16,u17,u18,u19,u20,u21,u22,u23,u24,u25,u26,u27,.int .i64 ↑j,.pointer (some ⟨w.1.size,3,none⟩),.slice (some ⟨g,off,none⟩) bs.length c4,.int .i64 ↑bs.length,.bool true,u33,u34,x 0,x 1,x 2,x 3,x 4,x 5,x 6,x 7,x 8,u44,u45,undef],[]⟩) (fun i=>match i with|0=>u35|1=>u36|2=>u37|3=>u38|4=>u39|5=>u40|6=>u41|7=>u42|8=>u43|_=>undef) rfl kL kL kL rfl ?_ ?_
  ·intro jo hj so x iw W hd hp K hK;simp only[mN,nN,or_false]at hj;rcases hj with rfl|rfl|rfl|rfl|rfl|rfl|rfl|rfl|rfl<;>refine wpOp_step (o:=_) rfl fun K' hK'=>?_<;>have HK:=hJ (fun(v:Va) (W':Wd) h1 h2=>hK' _ _ (hK v W' h1 h2))<;>simp only[upd,Nat.reduceEqDiff,if_true,if_false]at HK
   ·exact cQ6
   ·have e0:x 0=.pointer (some ⟨b,3,none⟩):=hp.post 0 (hd 0 mz0);have q0:=(HC.o W hp.bel).1;simp only[e0]at HK ⊢;go_simp;exact HK.o _ _ bR rfl
   ·exact cQ6
   ·have e2:x 2=.pointer (some ⟨w.1.size,3,none⟩):=hp.post 2 (hd 2 mz0);have q0:=(HC.o W hp.bel).2.1;simp only[e2]at HK ⊢;go_simp;exact HK.o _ _ bR rfl
   ·exact cQ6
   ·have e3:x 3=.slice (some ⟨g,off,none⟩) bs.length c4:=hp.post 3 (hd 3 mz0);have e4:x 4=.int .i64 (j:Int):=hp.post 4 (hd 4 mz1);simp only[e3,e4]at HK ⊢;go_simp;exact HK.o _ _ bR rfl
   ·exact cQ79
   ·have e6:x 6=.agg #[.bool y,.slice pa z.length pc,.string s]:=hp.post 6 (hd 6 mz0);have bl:=(HC.o W hp.bel).2.2.2.2.2;simp only[e6]at HK ⊢;go_simp;refine(ze6 y s _ z W (HP.o W bl) aP.o.1).mono ?_;rintro e w6 ⟨p6,rfl,O6,B6⟩;go_simp;exact HK.o _ _ B6 ⟨p6,rfl,O6,fun i hi=>(O6.lt i hi).2⟩
   have e7:∃u,x 7=.agg #[.bool y,u,.string s]/\SOwns W (iw 7).1 90 u z/\∀i,u.ownBlock=some i->i<(iw 7).2:=hp.post 7 (hd 7 mz0);obtain⟨p7,e7,O7,-⟩:=e7;obtain⟨pb,pd,rfl⟩:=O7.rsl.form;clear O7;have HE:=hJ e7;simp only[e7]at HK ⊢;clear e7;go_simp;exact HK.o _ _ ((bF _ W).alloc nR _) ⟨rfl,sI,.slice pb z.length pd,by rw[zaq _ _ _ _ dC];exact HE.o,AtC.new W 95 _⟩
  intro x iw W hp;have e1:x 1=.slice gi ti.length ci:=hp.post 1 dC;obtain⟨p7,e7,O7,-⟩:=hp.post 7 dC;obtain⟨e8,-,p8,f8,A8⟩:=hp.post 8 dC;rw[e7]at f8;simp only[Value.agg.injEq,Array.mk.injEq,List.cons.injEq,and_true,true_and]at f8;subst f8;have l7:=(hp.lo 7 dC).1;have aC:=hp.bel;have O9:=O7.base_le l7;obtain⟨pb,pd,rfl⟩:=O9.rsl.form;have hT:=HX.o.1.of_heap fun k hk=>aC.block k (HX.o.1.lt k hk);have HN:Hid (∀v' w',TOwns w' 95 v' (ti++[(.bool y,.slice pb z.length pd,.string s)])->W.grownBy w' (Value.slice gi ti.length ci).ownBlock->(∀k,v'.ownBlock=some k->(Value.slice gi ti.length ci).ownBlock=some k\/W.1.size<=k)->(AtC w' b 30 #[.slice d1 xs.length f1,.slice d2 ys.length f2,.slice a7 is.length c7,.slice gi ti.length ci])/\Dz w (w'.setCell ⟨b,3,none⟩ v') #[.slice a1 xs.length c1,.slice a2 ys.length c2,.slice a3 is.length c3,.slice (some ⟨g,off,none⟩) bs.length c4] b (.slice d1 xs.length f1) (.slice d2 ys.length f2) (.slice a7 is.length c7) v' xs ys is (bs.take j++[(y,z,s)])):=fun v' w' h1 h2 h3=>HX.o.2.1 W w' v' _ (y,z,s) aC ⟨rfl,O9.base_le (zL _),rfl⟩ (fun k hk=>(O9.lt k hk).1) h1 h2 h3;have aN:Hid (ti.length<=1000000000000):=by have:=HX.o.2.2;show ti.length<=_;omega
  have aD:=hJ A8;have HT:=hJ hT;generalize (iw 8).1=g8 at*;clear hT O9 O7 hp l7 aC A8 HX aH b0;simp only[e1,e7,e8];refine wS fun K' hK'=>?_;refine zas _ rfl (.tmp 36) (.tmp 43) 28 rfl 95 Tryz.u28 _ 48 Tryz.i95 rfl dC (.slice gi ti.length ci) ti rfl HT.o g8 (.bool y,.slice pb z.length pd,.string s) rfl ⟨aD.o.cell 0,aD.o.cell 1,aD.o.cell 2⟩ ⟨rfl,rfl,rfl⟩ aN.o ?_;intro v9 w9 T9 G9 V9;refine hK' _ _ ?_;obtain⟨e9,D9⟩:=HN.o v9 w9 T9 G9 V9;obtain⟨g9,c9,rfl,-⟩:=T9.form;have aM:(ti++[((.bool y,.slice pb z.length pd,.string s):V3)]).length=ti.length+1:=sI
  rw[aM]at D9 ⊢;clear aM;have z3:=e9.c3;have z2:=e9.frozen 3;have H9:=hJ D9;clear e9 D9 T9 G9 V9 HN aD HT aN hK' K' e1 e7 e8;go_wp2_with fail
  rw[List.filterMap_nil];go_wp2;go_roundw
  case rel=>exact⟨j+1,oM,gK,_,by rw[←aO.o];exact H9.o⟩
  simp[intOf];omega
 have aQ:j=bs.length:=oM
 subst aQ;rw[List.take_length]at aB;obtain⟨-,-,-,-,-,-,p8,q8,-,-,-,rfl⟩:=aB.dsk.dr.form;have H7:=hJ aB;have b0:=aB.arg.c3;obtain⟨y0,y1,y2,y3⟩:=AtC.four aB.box;obtain⟨r0,r1,r2,r3⟩:=AtC.four aB.res;obtain⟨v0,v1,v2,v3⟩:=aB.res.f4;clear aB HR;go_wp2;refine bY (v:=.agg #[.slice d1 xs.length f1,.slice d2 ys.length f2,.slice a7 is.length c7,.slice p8 bs.length q8]) sR4 rfl ⟨_,_,_,_,rfl,?_,?_⟩
 ·exact cQ41
 exact cQ119
namespace Kit
def cnt{α:Type}(sz:α->Nat):Nat->List α->Nat
 | k,[]=>k
 | k,x::r=>cnt sz (k+sz x) r
section
variable {α : Type} {sz : α -> Nat} {mk : Nat -> α -> α}
end
theorem GO.len_of{α:Type}{K:Kd α}{w:Wd}{S:Nat->Prop}{v:Va}{ts:List V3}{xs:List α}(h:GO K w S v ts xs){a:OA}{n cap:Nat}(hv:v=.slice a n cap):n=ts.length:=by
 exact cQ125
end Kit
namespace Kit
structure Dp where
 id:Int
 kd:Int
 io:Int
 pt:Int
 bk:Int
 sl:Int
 nm:ByteArray
 bt:Bool
 ot:Bool
 af:Int
 bl:List Int
def Dp.row(d:Dp)(p:Va):Row:=[nI d.id,nI d.kd,nI d.io,nI d.pt,nI d.bk,nI d.sl,.string d.nm,.bool d.bt,.bool d.ot,nI d.af,p]
def KDep:Kn Dp where
 n:=11
 T:=42
 p:=fun t=>t.getD 10 (.slice none 0 0)
 O:=fun w t x=>∃p,t=x.row p/\ROwns w 0 3 p (ic x.bl)
 R:=fun w t x=>∃p,t=x.row p/\RInts w p x.bl
 len:=fun h=>by obtain⟨p,rfl,-⟩:=h;rfl
 heap:=fun h hh=>by obtain⟨p,rfl,h⟩:=h;exact⟨p,rfl,h.of_heap hh⟩
 lt:=fun h k hk=>by obtain⟨p,rfl,h⟩:=h;exact(h.lt k hk).2
 rd:=fun h=>by obtain⟨p,rfl,h⟩:=h;exact⟨p,rfl,h.rints⟩
 bel:=fun h hb hB=>by obtain⟨p,rfl,h⟩:=h;exact⟨p,rfl,h.below hb hB⟩
def DCells(w:Wd)(g o:Nat)(d:Dp)(p:Va):Prop:=w.cell? ⟨g,o,none⟩=some (nI d.id)/\w.cell? ⟨g,o+1,none⟩=some (nI d.kd)/\w.cell? ⟨g,o+2,none⟩=some (nI d.io)/\w.cell? ⟨g,o+3,none⟩=some (nI d.pt)/\w.cell? ⟨g,o+4,none⟩=some (nI d.bk)/\w.cell? ⟨g,o+5,none⟩=some (nI d.sl)/\w.cell? ⟨g,o+6,none⟩=some (.string d.nm)/\w.cell? ⟨g,o+7,none⟩=some (.bool d.bt)/\w.cell? ⟨g,o+8,none⟩=some (.bool d.ot)/\w.cell? ⟨g,o+9,none⟩=some (nI d.af)/\w.cell? ⟨g,o+10,none⟩=some (p)
theorem DCells.of{w:Wd}{g o:Nat}{d:Dp}{p:Va}(h:∀i,i<11->w.cell? ⟨g,o+i,none⟩=(d.row p)[i]?):DCells w g o d p :=
 ⟨h 0 dC,h 1 dC,h 2 dC,h 3 dC,h 4 dC,h 5 dC,h 6 dC,h 7 dC,h 8 dC,h 9 dC,h 10 dC⟩
theorem DCells.below{w w':Wd}{g o:Nat}{d:Dp}{p:Va}{B:Nat}(h:DCells w g o d p)(hb:Below B w w')(hg:g<B):DCells w' g o d p:=by
 obtain⟨h0,h1,h2,h3,h4,h5,h6,h7,h8,h9,aB⟩:=h;exact⟨(hb.cell (p:=⟨g,o,none⟩) hg).trans h0,(hb.cell (p:=⟨g,o+1,none⟩) hg).trans h1,(hb.cell (p:=⟨g,o+2,none⟩) hg).trans h2,(hb.cell (p:=⟨g,o+3,none⟩) hg).trans h3,(hb.cell (p:=⟨g,o+4,none⟩) hg).trans h4,(hb.cell (p:=⟨g,o+5,none⟩) hg).trans h5,(hb.cell (p:=⟨g,o+6,none⟩) hg).trans h6,(hb.cell (p:=⟨g,o+7,none⟩) hg).trans h7,(hb.cell (p:=⟨g,o+8,none⟩) hg).trans h8,(hb.cell (p:=⟨g,o+9,none⟩) hg).trans h9,(hb.cell (p:=⟨g,o+10,none⟩) hg).trans aB⟩
theorem RN.dep{w:Wd}{v:Va}{xs:List Dp}(h:RN KDep w v xs):∃a cap,v=.slice a xs.length cap/\xs.length<=cap/\∀(j:Nat)(h:j<xs.length),∃g aB p,a=some ⟨g,aB,none⟩/\g<w.1.size/\DCells w g (aB+j*11) xs[j] p/\RInts w p xs[j].bl:=by
 obtain⟨a,cap,e,hc,h⟩:=h;refine⟨a,cap,e,hc,fun j hj=>?_⟩;obtain⟨g,aB,t,e1,hg,hc,p,rfl,hr⟩:=h j hj;exact⟨g,aB,p,e1,hg,DCells.of fun i hi=>hc i hi,hr⟩
theorem DO.bound{w:Wd}{S:Nat->Prop}{u v iv bv:Va}{xs ys:List Bool}{is:List Ino}{bs:List Blk}(h:DO w S u v iv bv xs ys is bs):DO w (fun k=>S k/\k<w.1.size) u v iv bv xs ys is bs:=by
 obtain⟨T1,T2,T3,ti,tb,k1,k2,k3,k4,k5,k6,k7⟩:=h;refine⟨fun k=>T1 k/\k<w.1.size,fun k=>T2 k/\k<w.1.size,fun k=>T3 k/\k<w.1.size,ti,tb,k1,fun k hk=>⟨k2 k hk,hk.elim (fun e=>(k1.a.lt k e).2) (fun e=>(k1.b.lt k e).2)⟩,k3.bound,k4.bound,fun k hk=>⟨fun e=>(k5 k hk.1).1 e.1,fun e=>(k5 k hk.1).2 e.1⟩,fun k hk e=>k6 k hk.1 e.1,fun k hk=>?_⟩;rcases hk with hk|hk|hk
 ·exact⟨k7 k (.inl hk.1),hk.2⟩
 ·exact⟨k7 k (.inr (.inl hk.1)),hk.2⟩
 exact⟨k7 k (.inr (.inr hk.1)),hk.2⟩
structure MD where
 xs:List Bool
 ys:List Bool
 is:List Ino
 bs:List Blk
 fs:List Bool
 ds:List Dp
 nx:Int
end Kit
end Go.Proofs.YtgnplpmgkegcnaaGreat
namespace Go.World
open Go.Proofs.YtgnplpmgkegcnaaGreat.Kit
abbrev s0(w:World)(b:Nat)(m:MD)(a1:Option Addr)(c1:Nat)(a2:Option Addr)(c2:Nat)(a3:Option Addr)(c3:Nat)(a4:Option Addr)(c4:Nat)(a5:Option Addr)(c5:Nat)(a6:Option Addr)(c6:Nat):World:=w.s7 b (.slice a1 m.1.length c1) (.slice a2 m.2.length c2) (.slice a3 m.3.length c3) (.slice a4 m.4.length c4) (.slice a5 m.5.length c5) (.slice a6 m.6.length c6) (.int .i64 m.7)
abbrev r0(w:World)(b:Nat)(m:MD)(a1:Option Addr)(c1:Nat)(a2:Option Addr)(c2:Nat)(a3:Option Addr)(c3:Nat)(a4:Option Addr)(c4:Nat)(a5:Option Addr)(c5:Nat)(a6:Option Addr)(c6:Nat):Prop:=w.r7 b (.slice a1 m.1.length c1) (.slice a2 m.2.length c2) (.slice a3 m.3.length c3) (.slice a4 m.4.length c4) (.slice a5 m.5.length c5) (.slice a6 m.6.length c6) (.int .i64 m.7)
end Go.World
namespace Go.Proofs.YtgnplpmgkegcnaaGreat
namespace Kit
open Go.RowKit
abbrev K7(a b c d e f:Int)(g:BA)(h i:Bool)(j:Int)(k:OA)(l m:Nat):Array Va:=#[nI a,nI b,nI c,nI d,nI e,nI f,.string g,.bool h,.bool i,nI j,.slice k l m]
abbrev E7:Array Va:=#[.slice none 0 0,.slice none 0 0,.slice none 0 0,.slice none 0 0,.slice none 0 0,.slice none 0 0,nI 0]
abbrev M9(m:MD)(a1:OA)(c1:Nat)(a2:OA)(c2:Nat)(a3:OA)(c3:Nat)(a4:OA)(c4:Nat)(a5:OA)(c5:Nat)(a6:OA)(c6:Nat)(p:OA)(q r:Nat):Array Va:=#[.slice a1 m.1.length c1,.slice a2 m.2.length c2,.slice a3 m.3.length c3,.slice a4 m.4.length c4,.slice a5 m.5.length c5,.slice a6 m.6.length c6,nI m.7,.slice p q r]
abbrev M7(m:MD)(a1:OA)(c1:Nat)(a2:OA)(c2:Nat)(a3:OA)(c3:Nat)(a4:OA)(c4:Nat)(a5:OA)(c5:Nat)(a6:OA)(c6:Nat):Array Va:=#[.slice a1 m.1.length c1,.slice a2 m.2.length c2,.slice a3 m.3.length c3,.slice a4 m.4.length c4,.slice a5 m.5.length c5,.slice a6 m.6.length c6,nI m.7]
structure MR(w:Wd)(u v iv bv dv pv:Va)(m:MD):Prop where
 d:DR w u v iv bv m.xs m.ys m.is m.bs
 f:RFl w dv m.fs
 p:RN KDep w pv m.ds
abbrev R7(w:Wd)(m:MD)(a1:OA)(c1:Nat)(a2:OA)(c2:Nat)(a3:OA)(c3:Nat)(a4:OA)(c4:Nat)(a5:OA)(c5:Nat)(a6:OA)(c6:Nat):Prop:=MR w (.slice a1 m.1.length c1) (.slice a2 m.2.length c2) (.slice a3 m.3.length c3) (.slice a4 m.4.length c4) (.slice a5 m.5.length c5) (.slice a6 m.6.length c6) m
namespace MR
variable {w w' : World} {u v iv bv dv pv : Value} {m : MD}
theorem below{B:Nat}(h:MR w u v iv bv dv pv m)(hb:Below B w w')(hB:w.1.size<=B):MR w' u v iv bv dv pv m:=⟨h.d.below hb hB,h.f.below hb hB,h.p.below hb hB⟩
theorem alloc(h:MR w u v iv bv dv pv m)(o:Obj):MR (w.alloc o) u v iv bv dv pv m:=h.below ((Below.refl _ w).alloc nR o) nR
theorem drew(h:MR w u v iv bv dv pv m):MR w.drew u v iv bv dv pv m:=h.below (Below.refl w.1.size w).drew nR
theorem form(h:MR w u v iv bv dv pv m):∃a1 c1 a2 c2 a3 c3 a4 c4 a5 c5 a6 c6,u=.slice a1 m.1.length c1/\v=.slice a2 m.2.length c2/\iv=.slice a3 m.3.length c3/\bv=.slice a4 m.4.length c4/\dv=.slice a5 m.5.length c5/\pv=.slice a6 m.6.length c6:=by
 obtain⟨a1,c1,a2,c2,a3,c3,a4,c4,e1,e2,e3,e4⟩:=h.d.form;obtain⟨a5,c5,e5⟩:=h.f.form;obtain⟨a6,c6,e6⟩:=h.p.form;exact⟨a1,c1,a2,c2,a3,c3,a4,c4,a5,c5,a6,c6,e1,e2,e3,e4,e5,e6⟩
end MR
def MO(w:World)(S:Nat->Prop)(u v iv bv dv pv:Value)(m:MD):Prop :=
 ∃(S1 S2 S3:Nat->Prop)(ts:List Row),DO w S1 u v iv bv m.xs m.ys m.is m.bs/\ROwns w 0 4 dv (fc m.fs)/\(∀k,dv.ownBlock=some k->S2 k)/\GN KDep w S3 pv ts m.ds/\(∀k,S1 k->¬S2 k/\¬S3 k)/\(∀k,S2 k->¬S3 k)/\∀k,S1 k\/S2 k\/S3 k->S k
abbrev N7(w:World)(S:Nat->Prop)(m:MD)(a1:Option Addr)(c1:Nat)(a2:Option Addr)(c2:Nat)(a3:Option Addr)(c3:Nat)(a4:Option Addr)(c4:Nat)(a5:Option Addr)(c5:Nat)(a6:Option Addr)(c6:Nat):Prop:=MO w S (.slice a1 m.1.length c1) (.slice a2 m.2.length c2) (.slice a3 m.3.length c3) (.slice a4 m.4.length c4) (.slice a5 m.5.length c5) (.slice a6 m.6.length c6) m
namespace MO
variable {w w' : World} {S S' : Nat -> Prop} {u v iv bv dv pv : Value} {m : MD}
theorem of_heap(h:MO w S u v iv bv dv pv m)(hh:∀k,S k->k<w.1.size->w'.1[k]?=w.1[k]?):MO w' S u v iv bv dv pv m:=by
 obtain⟨S1,S2,S3,ts,h1,h2,h3,h4,h5,h6,h7⟩:=h;exact⟨S1,S2,S3,ts,h1.of_heap fun k hs hk=>hh k (h7 k (.inl hs)) hk,h2.of_heap fun k hk=>hh k (h7 k (.inr (.inl (h3 k hk)))) (h2.lt k hk).2,h3,h4.of_heap fun k hs hk=>hh k (h7 k (.inr (.inr hs))) hk,h5,h6,h7⟩
theorem below{B:Nat}(h:MO w S u v iv bv dv pv m)(hb:Below B w w')(hB:w.1.size<=B):MO w' S u v iv bv dv pv m:=h.of_heap fun k _ hk=>hb.block k oM
theorem alloc(h:MO w S u v iv bv dv pv m)(o:Obj):MO (w.alloc o) S u v iv bv dv pv m:=h.below ((Below.refl _ w).alloc nR o) nR
theorem mono(h:MO w S u v iv bv dv pv m)(hs:∀k,S k->S' k):MO w S' u v iv bv dv pv m:=by
 obtain⟨S1,S2,S3,ts,h1,h2,h3,h4,h5,h6,h7⟩:=h;exact⟨S1,S2,S3,ts,h1,h2,h3,h4,h5,h6,fun k hk=>hs k (h7 k hk)⟩
theorem mr(h:MO w S u v iv bv dv pv m):MR w u v iv bv dv pv m:=by
 obtain⟨S1,S2,S3,ts,h1,h2,h3,h4,-⟩:=h;exact⟨h1.dr,h2.rfl,h4.rn⟩
theorem bound(h:MO w S u v iv bv dv pv m):MO w (fun k=>S k/\k<w.1.size) u v iv bv dv pv m:=by
 obtain⟨S1,S2,S3,ts,h1,h2,h3,h4,h5,h6,h7⟩:=h;obtain⟨T1,T2,T3,ti,tb,k1,k2,k3,k4,k5,k6,k7⟩:=h1;refine⟨fun k=>S1 k/\k<w.1.size,fun k=>S2 k/\k<w.1.size,fun k=>S3 k/\k<w.1.size,ts,⟨fun k=>T1 k/\k<w.1.size,fun k=>T2 k/\k<w.1.size,fun k=>T3 k/\k<w.1.size,ti,tb,k1,fun k hk=>⟨k2 k hk,hk.elim (fun e=>(k1.a.lt k e).2) (fun e=>(k1.b.lt k e).2)⟩,k3.bound,k4.bound,fun k hk=>⟨fun e=>(k5 k hk.1).1 e.1,fun e=>(k5 k hk.1).2 e.1⟩,fun k hk e=>k6 k hk.1 e.1,fun k hk=>?_⟩,h2,fun k hk=>⟨h3 k hk,(h2.lt k hk).2⟩,h4.bound,fun k hk=>⟨fun e=>(h5 k hk.1).1 e.1,fun e=>(h5 k hk.1).2 e.1⟩,fun k hk e=>h6 k hk.1 e.1,fun k hk=>?_⟩
 ·rcases hk with hk|hk|hk
  ·exact⟨k7 k (.inl hk.1),hk.2⟩
  ·exact⟨k7 k (.inr (.inl hk.1)),hk.2⟩
  exact⟨k7 k (.inr (.inr hk.1)),hk.2⟩
 rcases hk with hk|hk|hk
 ·exact⟨h7 k (.inl hk.1),hk.2⟩
 ·exact⟨h7 k (.inr (.inl hk.1)),hk.2⟩
 exact⟨h7 k (.inr (.inr hk.1)),hk.2⟩
end MO
structure BigM(n:Nat)(m:MD):Prop where
 d:Big n m.xs m.ys m.is m.bs
 f:m.5.length<=n
 l:m.6.length<=n
 b:∀(j:Nat)(h:j<m.6.length),m.ds[j].bl.length<=n
 t:∀(j:Nat)(h:j<m.6.length),m.ds[j].nm.size<=n
end Kit
namespace Kit
open Go.RowKit
def noM:Array Va:=E7
theorem MO.soP{w:Wd}{S:Nat->Prop}{u v iv bv dv pv:Va}{m:MD}(h:MO w S u v iv bv dv pv m):∀k,pv.ownBlock=some k->S k:=by
 obtain⟨S1,S2,S3,ts,h1,h2,h3,h4,h5,h6,h7⟩:=h;exact fun k hk=>h7 k (.inr (.inr (h4.so k hk)))
theorem MO.appD{w:Wd}{S:Nat->Prop}{u v iv bv dv pv:Va}{m:MD}(h:MO w S u v iv bv dv pv m):
  ∃ts,NOwns w 42 11 pv ts/\ts.length=m.6.length/\∀(w1 w2:Wd)(aD:Va)(t':Row)(x':Dp),Bw w w1->KDep.O w1 t' x'->(∀k,(KDep.p t').ownBlock=some k->w.1.size<=k) ->
   NOwns w2 42 11 aD (ts++[t'])->w1.grownBy w2 pv.ownBlock->(∀k,aD.ownBlock=some k->pv.ownBlock=some k\/w1.1.size<=k)->MO w2 (fun k=>S k\/w.1.size<=k) u v iv bv dv aD { m with ds:=m.ds++[x'] }:=by
 obtain⟨S1,S2,S3,ts,h1,h2,h3,h4,h5,h6,h7⟩:=h.bound;refine⟨ts,h4.row,h4.len,fun w1 w2 aD t' x' hb hO hn hr hg hv=>?_⟩;have aK:=hb.size;have aB:∀q,S1 q\/S2 q\/S3 q->q<w.1.size:=fun q hq=>(h7 q hq).2;have aF:∀q,S1 q\/S2 q\/S3 q->S q:=fun q hq=>(h7 q hq).1;have aC:∀k,k<w.1.size->pv.ownBlock≠some k->w2.1[k]?=w.1[k]?:=fun k hk aH=>(hg.block k oM (fun e=>aH e.symm)).trans (hb.block k hk);refine⟨S1,S2,_,_,h1.of_heap fun k hk aG=>aC k aG (fun e=>(h5 k hk).2 (h4.so k e)),h2.of_heap fun k hk=>aC k (h2.lt k hk).2 (fun e=>h6 k (h3 k hk) (h4.so k e)),h3,h4.append hb hO hn hr hg hv,fun k hk=>⟨(h5 k hk).1,fun e=>?_⟩,fun k hk e=>?_,fun k hk=>?_⟩
 ·rcases e with e|e
  ·exact(h5 k hk).2 e.1
  have:=aB k (.inl hk);omega
 ·rcases e with e|e
  ·exact h6 k hk e.1
  have:=aB k (.inr (.inl hk));omega
 rcases hk with hk|hk|hk|hk
 ·exact .inl (aF k (.inl hk))
 ·exact .inl (aF k (.inr (.inl hk)))
 ·exact .inl (aF k (.inr (.inr hk.1)))
 exact .inr hk
structure Mz(w w':Wd)(A:Array Va)(b:Nat)(u v iv bv dv pv:Va)(m:MD):Prop where
 arg:AtC w' w.1.size 33 A
 res:AtC w' (w.1.size+1) 33 noM
 box:AtC w' b 33 #[u,v,iv,bv,dv,pv,nI m.nx]
 own:MO w' (fun k=>w.1.size+1<k/\k≠b) u v iv bv dv pv m
 bel:Bw w w'
 hb:w.1.size+1<b
namespace Mz
variable {w w' w1 : World} {A : Array Value} {b : Nat} {u v iv bv dv pv : Value} {m : MD}
theorem below(h:Mz w w' A b u v iv bv dv pv m)(hb:Below w'.1.size w' w1):Mz w w1 A b u v iv bv dv pv m :=
 ⟨h.arg.over hb,h.res.over hb,h.box.over hb,h.own.below hb nR,h.bel.trans (hb.mono h.bel.size),h.hb⟩
theorem app(h:Mz w w' A b u v iv bv dv pv m):∃ts,NOwns w' 42 11 pv ts/\ts.length=m.6.length/\∀(w1 w2:World)(aB:Value)(t':Row)(x':Dp),Below w'.1.size w' w1->KDep.O w1 t' x'->(∀k,(KDep.p t').ownBlock=some k->w'.1.size<=k) ->
  NOwns w2 42 11 aB (ts++[t'])->w1.grownBy w2 pv.ownBlock->(∀k,aB.ownBlock=some k->pv.ownBlock=some k\/w1.1.size<=k) ->
  AtC w2 b 33 #[u,v,iv,bv,dv,pv,.int .i64 m.nx]/\Mz w (w2.setCell ⟨b,5,none⟩ aB) A b u v iv bv dv aB { m with ds:=m.ds++[x'] }:=by
 obtain⟨ts,h1,h2,h3⟩:=h.own.appD;refine⟨ts,h1,h2,fun w1 w2 aB t' x' hb hO hn hr hg hv=>?_⟩;have aC:=h.own.soP;have aH:=h.box.lt;have aF:=h.bel.size;have aD:=hb.size;have aG:=h.res.lt;have aL:=h.arg.lt;have e0:AtC w2 w.1.size 33 A:=(hg.block _ oM (fun e=>by have:=aC _ e.symm;omega)).trans (h.arg.over hb);have e1:AtC w2 (w.1.size+1) 33 noM:=(hg.block _ oM (fun e=>by have:=aC _ e.symm;omega)).trans (h.res.over hb);have e2:AtC w2 b 33 #[u,v,iv,bv,dv,pv,.int .i64 m.nx]:=(hg.block _ oM (fun e=>by have:=aC _ e.symm;omega)).trans (h.box.over hb);have d:=h3 w1 w2 aB t' x' hb hO hn hr hg hv;have b2:Below w.1.size w w2:=(h.bel.trans (hb.mono aF)).grown hg oM (fun k hk=>by have:=aC k hk;omega);have aK:=h.hb;refine⟨e2,⟨e0.other oM _,e1.other oM _,e2.set 5 aB,?_,b2.setCell oD _,h.hb⟩⟩;have d2:=d.mono (S':=fun k=>w.1.size+1<k/\k≠b) fun k hk=>hk.elim id (fun e=>⟨by omega,by omega⟩);exact d2.of_heap fun k hk _=>heap_setCell_other w2 ⟨b,5,none⟩ k aB (by show k≠b;omega)
end Mz
def MkD(k:Nat)(xs ys:List Bool)(is:List Ino)(bs:List Blk):Mk:=.val [k] (fun lo hi w v=>∃a1 c1 a2 c2 a3 c3 a4 c4,v=.agg #[.slice a1 xs.length c1,.slice a2 ys.length c2,.slice a3 is.length c3,.slice a4 bs.length c4]/\DO w (fun q=>lo<=q/\q<hi) (.slice a1 xs.length c1) (.slice a2 ys.length c2) (.slice a3 is.length c3) (.slice a4 bs.length c4) xs ys is bs)
 (fun _ _ _ _ _ h hb=>by obtain⟨a1,c1,a2,c2,a3,c3,a4,c4,h1,h2⟩:=h;exact⟨a1,c1,a2,c2,a3,c3,a4,c4,h1,h2.below hb nR⟩)
def MkW(T:TypeId)(Z:Array Value):Mk:=.val [] (fun lo hi w v=>v=.pointer (some ⟨lo,0,none⟩)/\hi=lo+1/\AtC w lo T Z) (fun _ _ _ _ _ h hb=>⟨h.1,h.2.1,h.2.2.over hb⟩)
def MkM3(k l q n1 n2 n3 n4 n5:Nat)(nx:Int):Mk:=⟨[k,l,q],fun _ _ _ v x=>∃a1 c1 a2 c2 a3 c3 a4 c4 a5 c5,x k=.agg #[.slice a1 n1 c1,.slice a2 n2 c2,.slice a3 n3 c3,.slice a4 n4 c4]/\x l=.slice a5 n5 c5/\v=.agg #[.slice a1 n1 c1,.slice a2 n2 c2,.slice a3 n3 c3,.slice a4 n4 c4,.slice a5 n5 c5,.slice none 0 0,.int .i64 nx],fun _ _ _ _ _ _ h _=>h,fun _ _ _ _ x x' e h=>by
 obtain⟨a1,c1,a2,c2,a3,c3,a4,c4,a5,c5,h1,h2,h3⟩:=h;exact⟨a1,c1,a2,c2,a3,c3,a4,c4,a5,c5,by rw[←e k sI,h1],by rw[←e l sI,h2],h3⟩⟩
theorem zl1{w W:World}{A:Array Value}{b lo hi:Nat}{u v iv bv dv:Value}{m:MD}(hA:AtC W w.1.size 33 A)(hR:AtC W (w.1.size+1) 33 noM)(hb:AtC W b 33 noM)(hd:DO W (fun q=>lo<=q/\q<hi) u v iv bv m.xs m.ys m.is m.bs)(hf:ROwns W (w.1.size+1+1) 4 dv (fc m.fs))
  (hsep:∀k,dv.ownBlock=some k->(k<lo\/hi<=k)/\k≠b) (hlo:w.1.size+1<lo) (hbs:b<lo\/hi<=b) (bel:Below w.1.size w W) (hbb:w.1.size+1<b) (hds:m.ds=[]) :
  Mz w (((((((W.setCell ⟨b,0,none⟩ u).setCell ⟨b,1,none⟩ v).setCell ⟨b,2,none⟩ iv).setCell ⟨b,3,none⟩ bv).setCell ⟨b,4,none⟩ dv).setCell ⟨b,5,none⟩ (.slice none 0 0)).setCell ⟨b,6,none⟩ (.int .i64 m.nx)) A b u v iv bv dv (.slice none 0 0) m:=by
 have aB:∀k,k≠b->(((((((W.setCell ⟨b,0,none⟩ u).setCell ⟨b,1,none⟩ v).setCell ⟨b,2,none⟩ iv).setCell ⟨b,3,none⟩ bv).setCell ⟨b,4,none⟩ dv).setCell ⟨b,5,none⟩ (.slice none 0 0)).setCell ⟨b,6,none⟩ (.int .i64 m.nx)).1[k]?=W.1[k]?:=fun k hk =>
  ((((((heap_setCell_other _ ⟨b,6,none⟩ k _ hk).trans (heap_setCell_other _ ⟨b,5,none⟩ k _ hk)).trans (heap_setCell_other _ ⟨b,4,none⟩ k _ hk)).trans (heap_setCell_other _ ⟨b,3,none⟩ k _ hk)).trans (heap_setCell_other _ ⟨b,2,none⟩ k _ hk)).trans (heap_setCell_other _ ⟨b,1,none⟩ k _ hk)).trans (heap_setCell_other _ ⟨b,0,none⟩ k _ hk)
 refine⟨(aB _ oM).trans hA,(aB _ oM).trans hR,((((((hb.set 0 u).set 1 v).set 2 iv).set 3 bv).set 4 dv).set 5 (.slice none 0 0)).set 6 (.int .i64 m.nx),?_,((((((bel.setCell oD _).setCell oD _).setCell oD _).setCell oD _).setCell oD _).setCell oD _).setCell oD _,hbb⟩;refine⟨_,fun k=>dv.ownBlock=some k,fun _=>False,[],hd.of_heap fun k hk _=>aB k oM,(hf.of_heap fun k hk=>aB k (hsep k hk).2).base_le (Nat.zero_le _),fun k hk=>hk,by rw[hds];exact GN.nil _ _,fun k hk=>⟨fun e=>by have:=hsep k e;omega,id⟩,fun k hk e=>e,fun k hk=>?_⟩;rcases hk with hk|hk|hk
 ·exact⟨by omega,by omega⟩
 ·exact⟨by have:=hf.lt k hk;omega,(hsep k hk).2⟩
 exact hk.elim
end Kit
namespace Kit
open Go.RowKit
theorem NOwns.deps{w:Wd}{v:Va}{l:List Row}(h:NOwns w 42 11 v l)(k:Nat)(hk:k<l.length){d:Dp}{p:Va}(hd:l[k]=d.row p){g n cap:Nat}(hv:v=.slice (aA g 0) n cap):DCells w g (k*11) d p/\∀j,w.frozen? ⟨g,j,none⟩=false:=by
 obtain⟨g',aB,e,h1,h2,-⟩:=h.at k hk;rw[hv]at e;simp only[vJ,oJ,aJ]at e;obtain⟨⟨rfl,-⟩,-⟩:=e;exact⟨DCells.of fun i hi=>by rw[h1 i hi,hd],h2⟩
end Kit
namespace Kit
open Go.RowKit
theorem lit0_one(w:Wd)(A:Obj)(e:TypeId)(m:Nat):((w.alloc A).alloc (.cells #[] e)).ownsRow (w.1.size+1) e m (.slice (some ⟨w.1.size+1,0,none⟩) 0 0) 0 []:=by
 have:=World.ownsRow_lit (base:=w.1.size+1) (e:=e) (size:=m) (w.alloc A) #[] 0 sI (zL _) sI;simpa using this
theorem cp_one{w w1:Wd}{T e:TypeId}{m n:Nat}{cs:Array Va}{ds:List Va}{v':Va}(R1:w1.ownsRow (w.1.size+1) e m v' n ds)
  (R2:((w.alloc (.cells cs T)).alloc (.cells #[] e)).grownBy w1 (Value.slice (some ⟨w.1.size+1,0,none⟩) 0 0).ownBlock) :
  ∃a1 c1,v'=.slice a1 n c1/\Bw w w1/\AtC w1 w.1.size T cs:=by
 obtain⟨a1,c1,e1⟩:∃a1 c1,v'=.slice a1 n c1:=by
  exact cQ67
 exact⟨a1,c1,e1,za5 (((bF _ w).alloc nR _).alloc sI _) sO R2 (fun k hk=>by simp[Value.ownBlock]at hk;omega),((AtC.new w T cs).alloc _).grown R2 (by simp[Value.ownBlock])⟩
theorem AtC.at_{w:Wd}{b:Nat}{T:TypeId}{cs:Array Va}(h:AtC w b T cs)(i:Nat)(u:Va)(hu:cs.toList[i]?=some u):w.cell? ⟨b,i,none⟩=some u:=by
 rw[cell_of_row w b i cs T (0,0) h];simpa using hu
end Kit
open Go.RowKit Kit
theorem Tryz.u31:Tryz.prog.underlying 31=some (.slice 42):=by kernel_rfl
theorem Tryz.i42:(Tryz.prog.info? 42).map (fun i=>(i.zero,i.size,i.bytes))=some (some (.agg #[.int .i64 0,.int .i64 0,.int .i64 0,.int .i64 0,.int .i64 0,.int .i64 0,.string ⟨#[]⟩,.bool false,.bool false,.int .i64 0,.slice none 0 0]),11,104):=by kernel_rfl
theorem zax(u v iv bv dv pv:Va)(m:MD)(w:Wd)(h:MR w u v iv bv dv pv m)(hB:BigM 1048576 m):
  Calls Tryz.prog 44 #[.agg #[u,v,iv,bv,dv,pv,.int .i64 m.nx]] w fun e w'=>∃u' v' i' b' d' p',e=.returned (.agg #[u',v',i',b',d',p',.int .i64 m.nx])/\MO w' (fun k=>w.1.size<=k) u' v' i' b' d' p' m/\Bw w w':=by
 have H:=hJ h;have HG:=hJ hB;have cR:=hB.l;have HX:Hid (m.5.length<=100000000000):=lT hB.f dC;obtain⟨a1,c1,a2,c2,a3,c3,a4,c4,a5,c5,a6,c6,rfl,rfl,rfl,rfl,rfl,rfl⟩:=h.form;clear h hB;go_enter Tryz.func44,Tryz.ntmps44
 go_wp2_with fail
 have HC:Hid (∀W,Bw ((w.n (M7 m a1 c1 a2 c2 a3 c3 a4 c4 a5 c5 a6 c6) 33).n noM 33).drew W->AtC W w.1.size 33 (M7 m a1 c1 a2 c2 a3 c3 a4 c4 a5 c5 a6 c6)/\AtC W (w.1.size+1) 33 noM/\Bw w W/\w.1.size+1+1<=W.1.size):=fun W b=>by
  exact cQ45
 refine zau kL [0,1,2,3,4,5,6,7,8,9,10] [11] (fun i=>match i with|0=>.const [] (.pointer (some ⟨w.1.size,0,none⟩))|1=>.const [0] (.agg #[.slice a1 m.1.length c1,.slice a2 m.2.length c2,.slice a3 m.3.length c3,.slice a4 m.4.length c4])|2=>MkD 1 m.xs m.ys m.is m.bs|3=>MkE 4|4=>.const [] (.pointer (some ⟨w.1.size,4,none⟩))|5=>.const [4] (.slice a5 m.5.length c5)|6=>MkC 3 5 m.fs (w.1.size+1+1)|7=>.const [] (.pointer (some ⟨w.1.size,6,none⟩))|8=>.const [7] (.int .i64 m.nx)|9=>MkM3 2 6 8 m.1.length m.2.length m.3.length m.4.length m.5.length m.nx|10=>MkW 33 noM|_=>.triv) (fun x=>⟨#[.agg (M7 m a1 c1 a2 c2 a3 c3 a4 c4 a5 c5 a6 c6),.pointer (some ⟨w.1.size,0,none⟩),.pointer (some ⟨w.1.size+1,0,none⟩),x 10,undef,undef,x 0,x 1,x 2,x 3,x 4,x 5,x 6,x 7,x 8,x 9,undef,undef,undef,undef,undef,undef,undef,undef,undef,undef,undef,undef,undef,undef,undef,undef,undef,undef,undef,undef,undef,undef,undef,undef],[]⟩) (fun i=>match i with|0=>undef|1=>undef|2=>undef|3=>undef|4=>undef|5=>undef|6=>undef|7=>undef|8=>undef|9=>undef|10=>undef|_=>undef) rfl kL kL kL rfl ?_ ?_
 ·intro jo hj so x iw W hd hp K hK;simp only[mN,nN,or_false]at hj;rcases hj with rfl|rfl|rfl|rfl|rfl|rfl|rfl|rfl|rfl|rfl|rfl<;>refine wpOp_step (o:=_) rfl fun K' hK'=>?_<;>have HK:=hJ (fun(v:Va) (W':Wd) h1 h2=>hK' _ _ (hK v W' h1 h2))<;>simp only[upd,Nat.reduceEqDiff,if_true,if_false]at HK
  ·exact cQ6
  ·exact cQ69
  ·have e1:x 1=.agg #[.slice a1 m.1.length c1,.slice a2 m.2.length c2,.slice a3 m.3.length c3,.slice a4 m.4.length c4]:=hp.post 1 (hd 1 mz0);have bl:=(HC.o W hp.bel).2.2.1;simp only[e1]at HK ⊢;go_simp;refine(zbo _ _ _ _ m.xs m.ys m.is m.bs W (H.out.d.below bl nR) HG.o.d).mono ?_;rintro e w6 ⟨p1,p2,p3,p4,rfl,O6,B6⟩;obtain⟨b1,d1,b2,d2,b3,d3,b4,d4,rfl,rfl,rfl,rfl⟩:=O6.dr.form;go_simp;exact HK.o _ _ B6 ⟨b1,d1,b2,d2,b3,d3,b4,d4,rfl,O6.bound⟩
  ·exact cQ116
  ·exact cQ6
  ·have e4:x 4=.pointer (some ⟨w.1.size,4,none⟩):=hp.post 4 (hd 4 mz0);have q0:=(HC.o W hp.bel).1.c4;simp only[e4]at HK ⊢;go_simp;exact HK.o _ _ bR rfl
  ·have e3:x 3=.slice (some ⟨(iw 3).1,0,none⟩) 0 0/\(iw 3).2=(iw 3).1+1/\AtC W (iw 3).1 4 #[]:=hp.post 3 (hd 3 mz0);have e5:x 5=.slice a5 m.5.length c5:=hp.post 5 (hd 5 mz1);have bl:=HC.o W hp.bel;have l0:=(hp.lo 3 (hd 3 mz0)).1;simp[World.drew]at l0;obtain⟨f0,-,A0⟩:=e3;refine zbf W rfl (.tmp 9) (.tmp 11) 24 rfl (w.1.size+1+1) 4 Tryz.underlying24 _ 1 1 Tryz.i4 rfl dC dC (some ⟨(iw 3).1,0,none⟩) (by exact f0) (A0.empty _ oM 1) bl.2.2.2 (.slice a5 m.5.length c5) (by exact e5) m.5.length (fc m.fs) (H.out.f.below bl.2.2.1 nR).rc (by rw[zad,Nat.mul_one]) (zjf m.fs) HX.o ?_;intro v' w' R1 R2 R3;have O1:ROwns w' (w.1.size+1+1) 4 v' (fc m.fs):=by unfold ROwns;rw[zad];exact R1
   obtain⟨a8,c8,e8⟩:=O1.rfl.form;exact HK.o v' w' R2 ⟨a8,c8,e8,O1,fun i hi=>R3.elim (fun e=>.inr (by rw[zaq _ _ _ _ dC,f0];rw[hi]at e;exact e.symm)) (fun e=>.inl ⟨by rw[hi]at e;cases e;exact Nat.le_refl _,(O1.lt i hi).2⟩)⟩
  ·exact cQ6
  ·have e7:x 7=.pointer (some ⟨w.1.size,6,none⟩):=hp.post 7 (hd 7 mz0);have q0:=(HC.o W hp.bel).1.c6;simp only[e7]at HK ⊢;go_simp;exact HK.o _ _ bR rfl
  ·have e2:∃a1 c1 a2 c2 a3 c3 a4 c4,x 2=.agg #[.slice a1 m.1.length c1,.slice a2 m.2.length c2,.slice a3 m.3.length c3,.slice a4 m.4.length c4]/\DO W (fun q=>(iw 2).1<=q/\q<(iw 2).2) (.slice a1 m.1.length c1) (.slice a2 m.2.length c2) (.slice a3 m.3.length c3) (.slice a4 m.4.length c4) m.xs m.ys m.is m.bs:=hp.post 2 (hd 2 mz0);have e6:∃a c,x 6=.slice a m.5.length c/\ROwns W (w.1.size+1+1) 4 (x 6) (fc m.fs)/\∀i,(x 6).ownBlock=some i->((iw 6).1<=i/\i<(iw 6).2)\/(x 3).ownBlock=some i:=hp.post 6 (hd 6 mz1);have e8:x 8=.int .i64 m.nx:=hp.post 8 (hd 8 mz2);obtain⟨b1,d1,b2,d2,b3,d3,b4,d4,e2,-⟩:=e2;obtain⟨b5,d5,e6,-⟩:=e6;have HE:=hJ (aI e2 e6);simp only[e2,e6,e8]at HK ⊢;clear e2 e6 e8;go_simp;exact HK.o _ _ bR ⟨b1,d1,b2,d2,b3,d3,b4,d4,b5,d5,by rw[zaq _ _ _ _ dC];exact HE.o.1,by rw[zaq _ _ _ _ dC];exact HE.o.2,rfl⟩
  exact cQ73
 intro x iw W hp;obtain⟨b1,d1,b2,d2,b3,d3,b4,d4,e2,O2⟩:=hp.post 2 dC;obtain⟨f3,z3,-⟩:=hp.post 3 dC;obtain⟨b5,d5,e6,O6,aF⟩:=hp.post 6 dC;have e8:x 8=.int .i64 m.nx:=hp.post 8 dC;obtain⟨g1,h1,g2,h2,g3,h3,g4,h4,g5,h5,k2,k6,e9⟩:=hp.post 9 dC;obtain⟨bN,bS,aL⟩:=hp.post 10 dC;rw[e2]at k2;rw[e6]at k6;simp only[Value.agg.injEq,Array.mk.injEq,List.cons.injEq,vJ,true_and,and_true]at k2 k6;obtain⟨⟨rfl,rfl⟩,⟨rfl,rfl⟩,⟨rfl,rfl⟩,rfl,rfl⟩:=k2;obtain⟨rfl,rfl⟩:=k6;have aP:=hp.apart 2 dC 10 dC dC;have cB:=hp.apart 2 dC 6 dC dC;have bO:=hp.apart 2 dC 3 dC dC;have aX:=hp.apart 6 dC 10 dC dC;have aS:=hp.apart 3 dC 10 dC dC;have l2:=hp.lo 2 dC;have l3:=hp.lo 3 dC;have l6:=hp.lo 6 dC;have bE:=hp.lo 10 dC;simp[World.drew]at l2 l3 l6 bE;obtain⟨kA,kR,bel,-⟩:=HC.o W hp.bel;rw[e6,f3]at aF;rw[e6]at O6;have aH:∀k,(Value.slice b5 m.5.length d5).ownBlock=some k->(k<(iw 2).1\/(iw 2).2<=k)/\k≠(iw 10).1:=fun k hk=>by
  have q:=aF k hk;simp only[Value.ownBlock,oJ]at q;omega
 have D0:=zl1 (m:={ m with ds:=[] }) kA kR aL O2 O6 aH oM oM bel oM rfl;obtain⟨y0,y1,y2,y3,y4,y5,y6⟩:=AtC.sev aL;obtain⟨z0,z1,z2,cE,z4,z5,z6⟩:=aL.f7;generalize (iw 10).1=b at*;have HD:=hJ D0;clear hp aF O6 O2 aH kA kR bel bS z3 aP cB bO aX aS l2 l3 l6 bE D0 aL HC HX f3;simp only[e2,e6,e8,e9,bN];clear e2 e6 e8 e9 bN;go_wp2_with fail
 obtain⟨W1,bM⟩:∃W1,(((((((W.setCell ⟨b,0,none⟩ (.slice b1 m.1.length d1)).setCell ⟨b,1,none⟩ (.slice b2 m.2.length d2)).setCell ⟨b,2,none⟩ (.slice b3 m.3.length d3)).setCell ⟨b,3,none⟩ (.slice b4 m.4.length d4)).setCell ⟨b,4,none⟩ (.slice b5 m.5.length d5)).setCell ⟨b,5,none⟩ (.slice none 0 0)).setCell ⟨b,6,none⟩ (.int .i64 m.nx))=W1:=⟨_,rfl⟩
 rw[bM]at HD ⊢;clear y0 y1 y2 y3 y4 y5 y6 z0 z1 z2 cE z4 z5 z6 bM;go_loopw [4] (fun i wr=>∃j:Nat,j<=m.6.length/\i=.int .i64 j/\Hid (∃pv,Mz w wr (M7 m a1 c1 a2 c2 a3 c3 a4 c4 a5 c5 a6 c6) b (.slice b1 m.1.length d1) (.slice b2 m.2.length d2) (.slice b3 m.3.length d3) (.slice b4 m.4.length d4) (.slice b5 m.5.length d5) pv { m with ds:=m.ds.take j })) (fun i _=>m.6.length-(intOf i).toNat)
 case atStart=>exact⟨0,zL _,rfl,_,HD.o⟩
 obtain⟨j,hj,rfl,HR⟩:=hrel;obtain⟨pv,aD⟩:=HR.o;by_cases hlt:j<m.6.length
 ·obtain⟨ts,k1,k2,k3⟩:=aD.app;obtain⟨gi,ci,rfl,-⟩:=k1.form;obtain⟨ai,cX,ei,-,bK⟩:=H.out.p.dep;obtain⟨g,bV,p,rfl,hg,mm,hp⟩:=bK j hlt;simp only[vJ,true_and]at ei;obtain⟨rfl,rfl⟩:=ei;have aM:=HG.o.b j hlt;have aN:=tG hlt;obtain⟨X,hX⟩:∃X,m.ds[j]=X:=⟨_,rfl⟩
  rw[hX]at mm hp aM aN;obtain⟨id,kd,io,pt,bk,sl,nm,bt,ot,af,bl⟩:=X;simp only at hp aM;obtain⟨pa,pc,rfl⟩:=hp.form;have bG:ts.length=j:=by
   rw[k2];show(m.ds.take j).length=j;rw[lK];omega
  have nn:=mm.below aD.bel hg;simp only[DCells]at nn;obtain⟨n0,n1,n2,n3,n4,n5,n6,n7,n8,n9,cT⟩:=nn;have bU:Hid (RInts ((wr.n (K7 id kd io pt bk sl nm bt ot af pa bl.length pc) 42).n #[] 3) (.slice pa bl.length pc) bl):=((hp.below aD.bel nR).alloc _).alloc _;have bZ:Hid (bl.length<=100000000000):=lT aM dC;have aK:=hJ (aI k1 (aI k3 bG));have aV:=hJ aD;have bP:=hJ aN;have cC:=aD.arg.c5;have j0:(0:Int)<=(j:Int):=oM
  have j1:(j:Int)<(m.6.length:Int):=oM
  clear k1 k2 k3 aD HR bG mm hp aM aN bK hX hg;have aG:Hid (∀(v9:Va)(w9:Wd),w9.ownsRow (wr.1.size+1) 3 1 v9 bl.length (ic bl)->((wr.n (K7 id kd io pt bk sl nm bt ot af pa bl.length pc) 42).n #[] 3).grownBy w9 (Value.slice (some ⟨wr.1.size+1,0,none⟩) 0 0).ownBlock->∃pb pd aB,v9=.slice pb bl.length pd/\w9.setCell ⟨wr.1.size,10,none⟩ (.slice pb bl.length pd)=aB/\AtC w9 wr.1.size 42 (K7 id kd io pt bk sl nm bt ot af pa bl.length pc)/\AtC aB wr.1.size 42 (K7 id kd io pt bk sl nm bt ot af pb bl.length pd)/\aB.cell? ⟨b,5,none⟩=some (.slice gi ts.length ci)/\AtC (aB.n (K7 id kd io pt bk sl nm bt ot af pb bl.length pd) 42) aB.1.size 42 (K7 id kd io pt bk sl nm bt ot af pb bl.length pd)/\NOwns (aB.n (K7 id kd io pt bk sl nm bt ot af pb bl.length pd) 42) 42 11 (.slice gi ts.length ci) ts/\∀v' w',NOwns w' 42 11 v' (ts++[(⟨id,kd,io,pt,bk,sl,nm,bt,ot,af,bl⟩:Dp).row (.slice pb bl.length pd)])->(aB.n (K7 id kd io pt bk sl nm bt ot af pb bl.length pd) 42).grownBy w' (Value.slice gi ts.length ci).ownBlock->(∀k,v'.ownBlock=some k->(Value.slice gi ts.length ci).ownBlock=some k\/(aB.n (K7 id kd io pt bk sl nm bt ot af pb bl.length pd) 42).1.size<=k)->AtC w' b 33 #[.slice b1 m.1.length d1,.slice b2 m.2.length d2,.slice b3 m.3.length d3,.slice b4 m.4.length d4,.slice b5 m.5.length d5,.slice gi ts.length ci,.int .i64 m.nx]/\Mz w (w'.setCell ⟨b,5,none⟩ v') (M7 m a1 c1 a2 c2 a3 c3 a4 c4 a5 c5 (some ⟨g,bV,none⟩) c6) b (.slice b1 m.1.length d1) (.slice b2 m.2.length d2) (.slice b3 m.3.length d3) (.slice b4 m.4.length d4) (.slice b5 m.5.length d5) v' { m with ds:=m.ds.take (j+1) }):=fun v9 w9 R1 R2=>by
   obtain⟨pb,pd,rfl,B9,K9⟩:=cp_one R1 R2;have O9:ROwns w9 (wr.1.size+1) 3 (.slice pb bl.length pd) (ic bl):=by unfold ROwns;rw[zaf];exact R1
   have cY:=aV.o.box.lt;have cJ:=B9.size;have cU:=K9.lt;have bW:Bw wr ((w9.setCell ⟨wr.1.size,10,none⟩ (.slice pb bl.length pd)).n (K7 id kd io pt bk sl nm bt ot af pb bl.length pd) 42):=(B9.setCell nR _).alloc sO _;have aC:AtC (w9.setCell ⟨wr.1.size,10,none⟩ (.slice pb bl.length pd)) wr.1.size 42 (K7 id kd io pt bk sl nm bt ot af pb bl.length pd):=K9.set 10 (.slice pb bl.length pd);have aY:ROwns ((w9.setCell ⟨wr.1.size,10,none⟩ (.slice pb bl.length pd)).n (K7 id kd io pt bk sl nm bt ot af pb bl.length pd) 42) (wr.1.size+1) 3 (.slice pb bl.length pd) (ic bl):=(O9.setCell_other oM _).alloc _;refine⟨pb,pd,_,rfl,rfl,K9,aC,((aV.o.below B9).box.other oM _).cell 5,AtC.new _ 42 _,aK.o.1.of_heap fun k hk=>bW.block k (aK.o.1.lt k hk),fun v' w' h1 h2 h3=>?_⟩;have:=aK.o.2.1 _ w' v' _ ⟨id,kd,io,pt,bk,sl,nm,bt,ot,af,bl⟩ bW ⟨_,rfl,aY.base_le (zL _)⟩ (fun k hk=>by have:=(aY.lt k hk).1;omega) h1 h2 h3;rw[show({ m with ds:=m.ds.take j }:MD).ds++[(⟨id,kd,io,pt,bk,sl,nm,bt,ot,af,bl⟩:Dp)]=m.ds.take (j+1)from bP.o]at this;exact this
  have cF:Hid (ts.length<=100000000000):=by have:=aK.o.2.2;show ts.length<=_;omega
  clear aK aV;go_wp2_with (first| (at_builtin;refine zai _ rfl _ _ 40 rfl (wr.1.size+1) 3 Tryz.underlying40 _ 1 8 Tryz.i3 rfl dC dC (.slice (some ⟨wr.1.size+1,0,none⟩) 0 0) rfl (lit0_one wr _ 3 1) sI _ rfl bl.length (ic bl) bU.o.rc (by rw[zaf,Nat.mul_one]) (zjg bl) bZ.o ?_;intro v9 w9 R1 R2 R3;obtain⟨pb,pd,aB,rfl,cG,K9,aC,cK,bC,bH,bI⟩:=aG.o v9 w9 R1 R2;have cO:w9.cell? ⟨wr.1.size,10,none⟩=some (.slice pa bl.length pc):=K9.cell 10;have yf:=K9.frozen 10;have cN:aB.cell? ⟨wr.1.size,0,none⟩=some (.int .i64 id):=aC.cell 0;have cL:aB.cell? ⟨wr.1.size,1,none⟩=some (.int .i64 kd):=aC.cell 1;have cH:aB.cell? ⟨wr.1.size,2,none⟩=some (.int .i64 io):=aC.cell 2;have cW:aB.cell? ⟨wr.1.size,3,none⟩=some (.int .i64 pt):=aC.cell 3;have cQ:aB.cell? ⟨wr.1.size,4,none⟩=some (.int .i64 bk):=aC.cell 4;have dE:aB.cell? ⟨wr.1.size,5,none⟩=some (.int .i64 sl):=aC.cell 5;have cV:aB.cell? ⟨wr.1.size,6,none⟩=some (.string nm):=aC.cell 6;have dD:aB.cell? ⟨wr.1.size,7,none⟩=some (.bool bt):=aC.cell 7;have cM:aB.cell? ⟨wr.1.size,8,none⟩=some (.bool ot):=aC.cell 8;have cI:aB.cell? ⟨wr.1.size,9,none⟩=some (.int .i64 af):=aC.cell 9;have cA:aB.cell? ⟨wr.1.size,10,none⟩=some (.slice pb bl.length pd):=aC.cell 10;have aT:=hJ bC;have aU:=hJ bH;have aO:=hJ bI;clear R1 R2 R3 K9 aC bC bH bI)| (at_builtin;refine wS fun K' hK'=>?_;refine zap _ rfl (.tmp 34) (.tmp 36) 31 rfl 42 Tryz.u31 _ 11 104 Tryz.i42 rfl dC dC (.slice gi ts.length ci) ts rfl aU.o aB.1.size ((⟨id,kd,io,pt,bk,sl,nm,bt,ot,af,bl⟩:Dp).row (.slice pb bl.length pd)) rfl rfl (fun i u hu=>(aT.o.at_ i u hu)) (by simp[Dp.row,Value.oneCell']) cF.o ?_;intro bX aZ aR bJ bL;refine hK' _ _ ?_;obtain⟨aW,aQ⟩:=aO.o bX aZ aR bJ bL;obtain⟨dA,cP,rfl,-⟩:=aR.form;rw[show(ts++[(⟨id,kd,io,pt,bk,sl,nm,bt,ot,af,bl⟩:Dp).row (.slice pb bl.length pd)]).length=ts.length+1 from lA]at aQ ⊢;have z2:=aW.frozen 5;have z3:aZ.cell? ⟨b,5,none⟩=some (.slice gi ts.length ci):=aW.cell 5;have cD:=hJ aQ;clear aW aQ aR bJ bL hK'))
  go_roundw
  case rel=>exact⟨j+1,oM,gK,_,cD.o⟩
  simp[intOf];omega
 have bQ:j=m.6.length:=oM
 subst bQ;rw[List.take_length]at aD;obtain⟨g6,l6,e6⟩:=aD.own.mr.p.form;simp only at e6;subst e6;have H7:=hJ aD;have cC:=aD.arg.c5;obtain⟨y0,y1,y2,y3,y4,y5,y6⟩:=AtC.sev aD.box;obtain⟨r0,r1,r2,r3,r4,r5,r6⟩:=aD.res.k7;obtain⟨v0,v1,v2,v3,v4,v5,v6⟩:=aD.res.f7;clear aD HR;go_wp2;refine bY (v:=.agg (M7 m b1 d1 b2 d2 b3 d3 b4 d4 b5 d5 g6 l6)) sR7 rfl ⟨_,_,_,_,_,_,rfl,?_,?_⟩
 ·exact(H7.o.own.of_heap fun k hk _=>hs7 oA).mono fun k hk=>by omega
 exact(((((((H7.o.bel).setCell sI _).setCell sI _).setCell sI _).setCell sI _).setCell sI _).setCell sI _).setCell sI _
namespace Kit
def ff:List Bool->Nat
 | []=>0
 | b::r=>if b then(if ff r=0 then 0 else ff r+1)else 1
theorem ff_at(l:List Bool)(j:Nat)(h:j<l.length)(hf:l[j]=false)(ha:∀(i:Nat)(hi:i<j),l[i]=true):ff l=j+1:=by
 induction l generalizing j with
 | nil=>simp at h
 | cons b r ih =>
  cases j with
  | zero=>simp at hf;simp[ff,hf]
  | succ j =>
   have h0:b=true:=ha 0 oM;have h1:=ih j uI (by simpa using hf) (fun i hi=>by have:=ha (i+1) oM;simpa using this);simp[ff,h0,h1]
theorem ff_none(l:List Bool)(ha:∀(i:Nat)(hi:i<l.length),l[i]=true):ff l=0:=by
 induction l with
 | nil=>rfl
 | cons b r ih =>
  have h0:b=true:=ha 0 sI;have h1:=ih (fun i hi=>by have:=ha (i+1) sO;simpa using this);simp[ff,h0,h1]
theorem ff_or(l:List Bool):(ff l=0/\∀(i:Nat)(hi:i<l.length),l[i]=true)\/∃(k:Nat)(hk:k<l.length),ff l=k+1/\l[k]=false/\∀(i:Nat)(hi:i<k),l[i]=true:=by
 induction l with
 | nil=>left;exact⟨rfl,fun i hi=>by simp at hi⟩
 | cons b r ih =>
  cases b with
  | false=>right;exact⟨0,sI,rfl,rfl,fun i hi=>oM⟩
  | true =>
   rcases ih with⟨e,h⟩| ⟨k,hk,e,h1,h2⟩
   ·left
    refine⟨by simp[ff,e],fun i hi=>?_⟩
    cases i with
    | zero=>rfl
    | succ i=>simpa using h i (by simpa using hi)
   right
   refine⟨k+1,by simpa using hk,by simp[ff,e],by simpa using h1,fun i hi=>?_⟩
   cases i with
   | zero=>rfl
   | succ i=>simpa using h2 i oM
end Kit
theorem zcl(l:List Bool)(k:Nat)(b:Bool):fc (l.set k b)=(fc l).set k (.bool b):=by simp[fc,List.map_set]
theorem zde(v:Va)(l:List Bool)(w:Wd)(hv:RFl w v l)(hl:l.length<=1048576):
  Calls Tryz.prog 31 #[v] w fun e w'=>e=.returned (nI (ff l:Nat))/\w=w':=by
 obtain⟨a,c,rfl,ha⟩:=hv;have HA:=hJ ha;clear ha;go_enter Tryz.func31,Tryz.ntmps31
 go_wp2;go_loopw [3] (fun i wr=>∃j:Nat,j<=l.length/\i=.int .i64 j/\Hid (∀(i:Nat)(h1:i<j)(h2:i<l.length),l[i]=true)/\w=wr) (fun i _=>l.length-(intOf i).toNat)
 case atStart=>exact⟨0,zL _,rfl,hJ (fun i h1 h2=>oM),rfl⟩
 obtain⟨j,hj,rfl,HT,rfl⟩:=hrel;by_cases hlt:j<l.length
 ·obtain⟨g,aC,rfl,_,k1⟩:=HA.o j hlt;obtain⟨t,ht⟩:∃t,l[j]=t:=⟨_,rfl⟩
  rw[ht]at k1;have j0:(0:Int)<=(j:Int):=oM
  have j1:(j:Int)<(l.length:Int):=oM
  cases t with
  | true =>
   have aB:Hid (∀(i:Nat)(h1:i<j+1)(h2:i<l.length),l[i]=true):=hJ (fun i h1 h2=>by
    by_cases e:i=j
    ·subst e;exact ht
    ·exact HT.o i oM h2)
   clear ht;go_wp2;go_roundw
   case rel=>exact⟨j+1,oM,gK,aB,trivial⟩
   simp[intOf];omega
  | false =>
   have HF:=hJ (ff_at l j hlt ht (fun i hi=>HT.o i hi oM));clear ht;go_wp2;go_ret;exact⟨zco (show nI _=nI _ by rw[HF.o];rfl),rfl⟩
 have HF:=hJ (ff_none l (fun i hi=>HT.o i oM hi));go_wp2;go_ret;exact⟨by rw[HF.o];rfl,rfl⟩
theorem zf1(b:Nat)(u v iv bv pv:Va)(a:OA)(c:Nat)(fs:List Bool)(nx:Int)(w:Wd)(h:AtC w b 33 #[u,v,iv,bv,sL a fs c,pv,nI nx])(ho:ROwns w 0 4 (sL a fs c) (fc fs)):
  Calls Tryz.prog 197 #[.pointer (aA b 0),nI 0] w fun e w'=>e=.returned (.tuple #[])/\ROwns w' 0 4 (sL a fs c) (fc (fs.set 0 true))/\w.grownBy w' (sL a fs c).ownBlock:=by
 have x4:=h.c4;have HO:=hJ ho;clear ho h;by_cases hl:0<fs.length
 ·obtain⟨g,cap,e1,k1,k2,k3,k4⟩:=HO.o.at 0 (by rw[zad];exact hl);rw[zad]at e1;simp only[vJ,true_and]at e1;obtain⟨rfl,rfl⟩:=e1;have aD:w.cell? ⟨g,0,none⟩=some (.bool fs[0]):=k1.trans (by simp[fc,hl]);generalize fs[0]=t0 at aD;clear k1;have HS:=hJ (ROwns.stored (l:=fc fs) (g:=g) (cap:=c) (by rw[zad];exact HO.o) 0 (.bool true));have aB:(0:Int)<(fs.length:Int):=oM
  have hd:decide ((0:Int)<(fs.length:Int))=true:=dT aB;clear HO;go_enter Tryz.func197,Tryz.ntmps197
  go_wp2
  go_end0
  have q:=HS.o.1;rw[zad,←zcl]at q;exact⟨rfl,q,HS.o.2⟩
 have aB:¬(0:Int)<(fs.length:Int):=oM
 have hd:decide ((0:Int)<(fs.length:Int))=false:=dF aB;have aC:fs=[]:=List.length_eq_zero_iff.1 oM;have HF:=hJ aC;clear aC;go_enter Tryz.func197,Tryz.ntmps197
 go_wp2
 go_end0
 have e:=HF.o;refine⟨rfl,?_,zal bR _⟩;rw[show fs.set 0 true=fs by rw[e];rfl];exact HO.o
namespace Kit
theorem MO.turnX{w w':Wd}{S:Nat->Prop}{u v iv bv dv pv:Va}{m:MD}(h:MO w S u v iv bv dv pv m){l:List Bool}(hr:ROwns w' 0 4 u (fc l))(hg:w.grownBy w' u.ownBlock):MO w' S u v iv bv dv pv { m with xs:=l }:=by
 obtain⟨S1,S2,S3,ts,h1,h2,h3,h4,h5,h6,h7⟩:=h;obtain⟨T1,T2,T3,ti,tb,k1,k2,k3,k4,k5,k6,k7⟩:=h1;have un:∀k,k<w.1.size->u.ownBlock≠some k->w'.1[k]?=w.1[k]?:=fun k hk aB=>hg.block k hk (fun e=>aB e.symm);exact⟨S1,S2,S3,ts,⟨T1,T2,T3,ti,tb,⟨hr,k1.b.of_heap fun k hk=>un k (k1.b.lt k hk).2 fun e=>k1.ne k e hk,k1.ne⟩,k2,k3.of_heap fun k hs hk=>un k hk fun e=>(k5 k (k2 k (.inl e))).1 hs,k4.of_heap fun k hs hk=>un k hk fun e=>(k5 k (k2 k (.inl e))).2 hs,k5,k6,k7⟩,h2.of_heap fun k hk=>un k (h2.lt k hk).2 fun e=>(h5 k (k7 k (.inl (k2 k (.inl e))))).1 (h3 k hk),h3,h4.of_heap fun k hs hk=>un k hk fun e=>(h5 k (k7 k (.inl (k2 k (.inl e))))).2 hs,h5,h6,h7⟩
theorem MO.turnY{w w':Wd}{S:Nat->Prop}{u v iv bv dv pv:Va}{m:MD}(h:MO w S u v iv bv dv pv m){l:List Bool}(hr:ROwns w' 0 4 v (fc l))(hg:w.grownBy w' v.ownBlock):MO w' S u v iv bv dv pv { m with ys:=l }:=by
 obtain⟨S1,S2,S3,ts,h1,h2,h3,h4,h5,h6,h7⟩:=h;obtain⟨T1,T2,T3,ti,tb,k1,k2,k3,k4,k5,k6,k7⟩:=h1;have un:∀k,k<w.1.size->v.ownBlock≠some k->w'.1[k]?=w.1[k]?:=fun k hk aB=>hg.block k hk (fun e=>aB e.symm);exact⟨S1,S2,S3,ts,⟨T1,T2,T3,ti,tb,⟨k1.a.of_heap fun k hk=>un k (k1.a.lt k hk).2 fun e=>k1.ne k hk e,hr,k1.ne⟩,k2,k3.of_heap fun k hs hk=>un k hk fun e=>(k5 k (k2 k (.inr e))).1 hs,k4.of_heap fun k hs hk=>un k hk fun e=>(k5 k (k2 k (.inr e))).2 hs,k5,k6,k7⟩,h2.of_heap fun k hk=>un k (h2.lt k hk).2 fun e=>(h5 k (k7 k (.inl (k2 k (.inr e))))).1 (h3 k hk),h3,h4.of_heap fun k hs hk=>un k hk fun e=>(h5 k (k7 k (.inl (k2 k (.inr e))))).2 hs,h5,h6,h7⟩
theorem MO.turnF{w w':Wd}{S:Nat->Prop}{u v iv bv dv pv:Va}{m:MD}(h:MO w S u v iv bv dv pv m){l:List Bool}(hr:ROwns w' 0 4 dv (fc l))(hg:w.grownBy w' dv.ownBlock):MO w' S u v iv bv dv pv { m with fs:=l }:=by
 obtain⟨S1,S2,S3,ts,h1,h2,h3,h4,h5,h6,h7⟩:=h;obtain⟨T1,T2,T3,ti,tb,k1,k2,k3,k4,k5,k6,k7⟩:=h1;have un:∀k,k<w.1.size->dv.ownBlock≠some k->w'.1[k]?=w.1[k]?:=fun k hk aB=>hg.block k hk (fun e=>aB e.symm);exact⟨S1,S2,S3,ts,DO.of_heap ⟨T1,T2,T3,ti,tb,k1,k2,k3,k4,k5,k6,k7⟩ fun k hs hk=>un k hk fun e=>(h5 k hs).1 (h3 k e),hr,h3,h4.of_heap fun k hs hk=>un k hk fun e=>h6 k (h3 k e) hs,h5,h6,h7⟩
def takeB(m:MD):MD:=if ff m.xs=0 then m else{ m with xs:=m.xs.set (ff m.xs-1) true,fs:=m.fs.set 0 true }
def takeI(m:MD):MD:=if ff m.ys=0 then m else{ m with ys:=m.ys.set (ff m.ys-1) true,fs:=m.fs.set 0 true }
end Kit
theorem zc9(u v iv bv dv pv:Va)(m:MD)(w:Wd)(h:MR w u v iv bv dv pv m)(hB:BigM 1048576 m):
  Calls Tryz.prog 201 #[.agg #[u,v,iv,bv,dv,pv,nI m.nx]] w fun e w'=>∃u' v' i' b' d' p',e=.returned (.tuple #[.agg #[u',v',i',b',d',p',nI m.nx],nI (ff m.xs:Nat)])/\MO w' (fun k=>w.1.size<=k) u' v' i' b' d' p' (takeB m)/\Bw w w':=by
 have H:=hJ h;have HG:=hJ hB;have aK:=hB.d.x;obtain⟨a1,c1,a2,c2,a3,c3,a4,c4,a5,c5,a6,c6,rfl,rfl,rfl,rfl,rfl,rfl⟩:=h.form;clear h hB;have HC:Hid (∀W,Bw ((w.n (M7 m a1 c1 a2 c2 a3 c3 a4 c4 a5 c5 a6 c6) 33).n noM 33) W->AtC W w.1.size 33 (M7 m a1 c1 a2 c2 a3 c3 a4 c4 a5 c5 a6 c6)/\AtC W (w.1.size+1) 33 noM/\Bw w W/\w.1.size+1+1<=W.1.size):=fun W b2=>by
  exact cQ26
 go_enter Tryz.func201,Tryz.ntmps201
 go_wp2_with fail
 refine(zax _ _ _ _ _ _ m _ (H.out.below (HC.o _ bR).2.2.1 nR) HG.o).mono ?_;rintro e w2 ⟨u1,u2,u3,u4,u5,u6,rfl,O2,B2⟩;obtain⟨b1,d1,b2,d2,b3,d3,b4,d4,b5,d5,b6,d6,rfl,rfl,rfl,rfl,rfl,rfl⟩:=O2.mr.form;have aN:=(HC.o w2 B2).2.2.2;have O3:=(O2.mono (S':=fun k=>w.1.size+1+1<=k) (fun k hk=>by simp at hk;omega)).bound;have HS:Hid (AtC (w2.n (M7 m b1 d1 b2 d2 b3 d3 b4 d4 b5 d5 b6 d6) 33) w.1.size 33 (M7 m a1 c1 a2 c2 a3 c3 a4 c4 a5 c5 a6 c6)/\AtC (w2.n (M7 m b1 d1 b2 d2 b3 d3 b4 d4 b5 d5 b6 d6) 33) (w.1.size+1) 33 noM/\AtC (w2.n (M7 m b1 d1 b2 d2 b3 d3 b4 d4 b5 d5 b6 d6) 33) w2.1.size 33 (M7 m b1 d1 b2 d2 b3 d3 b4 d4 b5 d5 b6 d6)/\N7 (w2.n (M7 m b1 d1 b2 d2 b3 d3 b4 d4 b5 d5 b6 d6) 33) (fun k=>w.1.size+1+1<=k/\k<w2.1.size) m b1 d1 b2 d2 b3 d3 b4 d4 b5 d5 b6 d6/\Bw w (w2.n (M7 m b1 d1 b2 d2 b3 d3 b4 d4 b5 d5 b6 d6) 33)):=by
  exact cQ57
 have x0:=HS.o.1.c0;clear O2 O3 B2;go_wp2_with fail
 refine(zde _ m.xs _ ((H.out.d.below HS.o.2.2.2.2 nR).a) aK).mono ?_;rintro e w3 ⟨rfl,rfl⟩;rcases ff_or m.xs with⟨aB,-⟩| ⟨k,hk,aB,aD,-⟩
 ·have HFF:=hJ aB;rw[aB];clear aB x0;have q9:=HS.o.2.1;obtain⟨r0,r1,r2,r3,r4,r5,r6⟩:=q9.k7;obtain⟨v0,v1,v2,v3,v4,v5,v6⟩:=q9.f7;have q8:=HS.o.2.2.1;obtain⟨y0,y1,y2,y3,y4,y5,y6⟩:=q8.k7;have HM:Hid (MO (((w2.n (M7 m b1 d1 b2 d2 b3 d3 b4 d4 b5 d5 b6 d6) 33).s0 (w.1.size+1) m b1 d1 b2 d2 b3 d3 b4 d4 b5 d5 b6 d6)) (fun k=>w.1.size<=k) (sL b1 m.1 d1) (sL b2 m.2 d2) (sL b3 m.3 d3) (sL b4 m.4 d4) (sL b5 m.5 d5) (sL b6 m.6 d6) (takeB m)/\Bw w (((w2.n (M7 m b1 d1 b2 d2 b3 d3 b4 d4 b5 d5 b6 d6) 33).s0 (w.1.size+1) m b1 d1 b2 d2 b3 d3 b4 d4 b5 d5 b6 d6))):=by
   have e:takeB m=m:=by unfold takeB;rw[if_pos HFF.o]
   exact cQ22
  exact cQ48
 obtain⟨S1,S2,S3,ts,k1,-⟩:=HS.o.2.2.2.1;obtain⟨g,cap,e1,aG,aL,-,hg,-⟩:=k1.two.a.at k (by rw[zad];exact hk);rw[zad]at e1;simp only[vJ,true_and]at e1;obtain⟨rfl,rfl⟩:=e1;have aM:(w2.n (M7 m (aA g 0) d1 b2 d2 b3 d3 b4 d4 b5 d5 b6 d6) 33).cell? ⟨g,k,none⟩=some (.bool false):=aG.trans (by simp[fc,hk,aD]);have HX:Hid (∃w5,w5=(w2.n (M7 m (aA g 0) d1 b2 d2 b3 d3 b4 d4 b5 d5 b6 d6) 33).setCell ⟨g,k,none⟩ (.bool true)/\AtC w5 (w.1.size+1) 33 noM/\AtC w5 w2.1.size 33 (M7 m (aA g 0) d1 b2 d2 b3 d3 b4 d4 b5 d5 b6 d6)/\MO w5 (fun k=>w.1.size+1+1<=k/\k<w2.1.size) (sL (aA g 0) m.1 d1) (sL b2 m.2 d2) (sL b3 m.3 d3) (sL b4 m.4 d4) (sL b5 m.5 d5) (sL b6 m.6 d6) { m with xs:=m.xs.set k true }/\Bw w w5):=by
  obtain⟨-,q2,q3,q4,q5⟩:=HS.o;have st:=ROwns.stored (l:=fc m.xs) (g:=g) (cap:=d1) (by rw[zad];exact k1.two.a) k (.bool true);rw[zad,←zcl]at st;have aO:w.1.size+1+1<=g/\g<w2.1.size:=by
   obtain⟨S1',S2',S3',ts',p1,-,-,-,-,-,p7⟩:=q4;obtain⟨T1,T2,T3,ti,tb,z1,z2,-,-,-,-,z7⟩:=p1;exact p7 g (.inl (z7 g (.inl (z2 g (.inl rfl)))))
  exact⟨_,rfl,(hO_ _ ⟨g,k,none⟩ _ _ (by show w.1.size+1≠g;omega)).trans q2,(hO_ _ ⟨g,k,none⟩ _ _ (by show w2.1.size≠g;omega)).trans q3,q4.turnX st.1 st.2,q5.setCell oG _⟩
 have kn:((ff m.xs:Nat):Int)-1=(k:Int):=oM
 have kp:¬((ff m.xs:Nat):Int)=0:=oM
 have kl:(k:Int)<(m.1.length:Int):=oM
 have kz:(0:Int)<=(k:Int):=oM
 have kb:((ff m.xs:Nat):Int)<=1048576:=oM
 have aH:=HS.o.2.2.1.c0;have HFF:=hJ aB;clear k1 aG aB aD x0 HS;generalize hF:ff m.xs=F at*;go_wp2_with fail
 obtain⟨w5,aF,q2,q3,q4,q5⟩:=HX.o;rw[←aF];have aC:ROwns w5 0 4 (sL b5 m.5 d5) (fc m.fs)/\∀k,(sL b5 m.5 d5).ownBlock=some k->w.1.size+1+1<=k/\k<w2.1.size:=by
  exact cQ117
 refine(zf1 w2.1.size _ _ _ _ _ b5 d5 m.fs m.nx w5 q3 aC.1).mono ?_;rintro e w6 ⟨rfl,O6,G6⟩;have M6:=q4.turnF O6 G6;have q9:=q2.grown G6 (fun e=>by have:=aC.2 _ e;omega);have q8:=q3.grown G6 (fun e=>by have:=aC.2 _ e;omega);have bel6:Bw w w6:=q5.grown G6 q5.size (fun k hk=>by have:=aC.2 k hk;omega);obtain⟨r0,r1,r2,r3,r4,r5,r6⟩:=q9.k7;obtain⟨v0,v1,v2,v3,v4,v5,v6⟩:=q9.f7;obtain⟨y0,y1,y2,y3,y4,y5,y6⟩:=AtC.sev q8;have HM:Hid (MO ((w6.s0 (w.1.size+1) m (aA g 0) d1 b2 d2 b3 d3 b4 d4 b5 d5 b6 d6)) (fun k=>w.1.size<=k) (sL (aA g 0) m.1 d1) (sL b2 m.2 d2) (sL b3 m.3 d3) (sL b4 m.4 d4) (sL b5 m.5 d5) (sL b6 m.6 d6) (takeB m)/\Bw w ((w6.s0 (w.1.size+1) m (aA g 0) d1 b2 d2 b3 d3 b4 d4 b5 d5 b6 d6))):=by
  have e:takeB m={ m with xs:=m.xs.set k true,fs:=m.fs.set 0 true }:=by
   unfold takeB;rw[hF,if_neg oM,show F-1=k by omega]
  exact cQ24
 clear q9 q8 q2 q3 q4 q5 M6 O6 G6 bel6 aC HX aM aL aH aF;go_wp2;refine bY (v:=.tuple #[.agg (M7 m (aA g 0) d1 b2 d2 b3 d3 b4 d4 b5 d5 b6 d6),nI (F:Nat)]) sR7 rfl ⟨_,_,_,_,_,_,by rw[hF],HM.o.1,HM.o.2⟩
theorem zf2(u v iv bv dv pv:Va)(m:MD)(w:Wd)(h:MR w u v iv bv dv pv m)(hB:BigM 1048576 m):
  Calls Tryz.prog 195 #[.agg #[u,v,iv,bv,dv,pv,nI m.nx]] w fun e w'=>∃u' v' i' b' d' p',e=.returned (.tuple #[.agg #[u',v',i',b',d',p',nI m.nx],nI (ff m.ys:Nat)])/\MO w' (fun k=>w.1.size<=k) u' v' i' b' d' p' (takeI m)/\Bw w w':=by
 have H:=hJ h;have HG:=hJ hB;have aK:=hB.d.y;obtain⟨a1,c1,a2,c2,a3,c3,a4,c4,a5,c5,a6,c6,rfl,rfl,rfl,rfl,rfl,rfl⟩:=h.form;clear h hB;have HC:Hid (∀W,Bw ((w.n (M7 m a1 c1 a2 c2 a3 c3 a4 c4 a5 c5 a6 c6) 33).n noM 33) W->AtC W w.1.size 33 (M7 m a1 c1 a2 c2 a3 c3 a4 c4 a5 c5 a6 c6)/\AtC W (w.1.size+1) 33 noM/\Bw w W/\w.1.size+1+1<=W.1.size):=fun W b2=>by
  exact cQ26
 go_enter Tryz.func195,Tryz.ntmps195
 go_wp2_with fail
 refine(zax _ _ _ _ _ _ m _ (H.out.below (HC.o _ bR).2.2.1 nR) HG.o).mono ?_;rintro e w2 ⟨u1,u2,u3,u4,u5,u6,rfl,O2,B2⟩;obtain⟨b1,d1,b2,d2,b3,d3,b4,d4,b5,d5,b6,d6,rfl,rfl,rfl,rfl,rfl,rfl⟩:=O2.mr.form;have aN:=(HC.o w2 B2).2.2.2;have O3:=(O2.mono (S':=fun k=>w.1.size+1+1<=k) (fun k hk=>by simp at hk;omega)).bound;have HS:Hid (AtC (w2.n (M7 m b1 d1 b2 d2 b3 d3 b4 d4 b5 d5 b6 d6) 33) w.1.size 33 (M7 m a1 c1 a2 c2 a3 c3 a4 c4 a5 c5 a6 c6)/\AtC (w2.n (M7 m b1 d1 b2 d2 b3 d3 b4 d4 b5 d5 b6 d6) 33) (w.1.size+1) 33 noM/\AtC (w2.n (M7 m b1 d1 b2 d2 b3 d3 b4 d4 b5 d5 b6 d6) 33) w2.1.size 33 (M7 m b1 d1 b2 d2 b3 d3 b4 d4 b5 d5 b6 d6)/\N7 (w2.n (M7 m b1 d1 b2 d2 b3 d3 b4 d4 b5 d5 b6 d6) 33) (fun k=>w.1.size+1+1<=k/\k<w2.1.size) m b1 d1 b2 d2 b3 d3 b4 d4 b5 d5 b6 d6/\Bw w (w2.n (M7 m b1 d1 b2 d2 b3 d3 b4 d4 b5 d5 b6 d6) 33)):=by
  exact cQ57
 have x0:=HS.o.1.c1;clear O2 O3 B2;go_wp2_with fail
 refine(zde _ m.ys _ ((H.out.d.below HS.o.2.2.2.2 nR).b) aK).mono ?_;rintro e w3 ⟨rfl,rfl⟩;rcases ff_or m.ys with⟨aB,-⟩| ⟨k,hk,aB,aD,-⟩
 ·have HFF:=hJ aB;rw[aB];clear aB x0;have q9:=HS.o.2.1;obtain⟨r0,r1,r2,r3,r4,r5,r6⟩:=q9.k7;obtain⟨v0,v1,v2,v3,v4,v5,v6⟩:=q9.f7;have q8:=HS.o.2.2.1;obtain⟨y0,y1,y2,y3,y4,y5,y6⟩:=q8.k7;have HM:Hid (MO (((w2.n (M7 m b1 d1 b2 d2 b3 d3 b4 d4 b5 d5 b6 d6) 33).s0 (w.1.size+1) m b1 d1 b2 d2 b3 d3 b4 d4 b5 d5 b6 d6)) (fun k=>w.1.size<=k) (sL b1 m.1 d1) (sL b2 m.2 d2) (sL b3 m.3 d3) (sL b4 m.4 d4) (sL b5 m.5 d5) (sL b6 m.6 d6) (takeI m)/\Bw w (((w2.n (M7 m b1 d1 b2 d2 b3 d3 b4 d4 b5 d5 b6 d6) 33).s0 (w.1.size+1) m b1 d1 b2 d2 b3 d3 b4 d4 b5 d5 b6 d6))):=by
   have e:takeI m=m:=by unfold takeI;rw[if_pos HFF.o]
   exact cQ22
  exact cQ48
 obtain⟨S1,S2,S3,ts,k1,-⟩:=HS.o.2.2.2.1;obtain⟨g,cap,e1,aG,aL,-,hg,-⟩:=k1.two.b.at k (by rw[zad];exact hk);rw[zad]at e1;simp only[vJ,true_and]at e1;obtain⟨rfl,rfl⟩:=e1;have aM:(w2.n (M7 m b1 d1 (aA g 0) d2 b3 d3 b4 d4 b5 d5 b6 d6) 33).cell? ⟨g,k,none⟩=some (.bool false):=aG.trans (by simp[fc,hk,aD]);have HX:Hid (∃w5,w5=(w2.n (M7 m b1 d1 (aA g 0) d2 b3 d3 b4 d4 b5 d5 b6 d6) 33).setCell ⟨g,k,none⟩ (.bool true)/\AtC w5 (w.1.size+1) 33 noM/\AtC w5 w2.1.size 33 (M7 m b1 d1 (aA g 0) d2 b3 d3 b4 d4 b5 d5 b6 d6)/\MO w5 (fun k=>w.1.size+1+1<=k/\k<w2.1.size) (sL b1 m.1 d1) (sL (aA g 0) m.2 d2) (sL b3 m.3 d3) (sL b4 m.4 d4) (sL b5 m.5 d5) (sL b6 m.6 d6) { m with ys:=m.ys.set k true }/\Bw w w5):=by
  obtain⟨-,q2,q3,q4,q5⟩:=HS.o;have st:=ROwns.stored (l:=fc m.ys) (g:=g) (cap:=d2) (by rw[zad];exact k1.two.b) k (.bool true);rw[zad,←zcl]at st;have aO:w.1.size+1+1<=g/\g<w2.1.size:=by
   obtain⟨S1',S2',S3',ts',p1,-,-,-,-,-,p7⟩:=q4;obtain⟨T1,T2,T3,ti,tb,z1,z2,-,-,-,-,z7⟩:=p1;exact p7 g (.inl (z7 g (.inl (z2 g (.inr rfl)))))
  exact⟨_,rfl,(hO_ _ ⟨g,k,none⟩ _ _ (by show w.1.size+1≠g;omega)).trans q2,(hO_ _ ⟨g,k,none⟩ _ _ (by show w2.1.size≠g;omega)).trans q3,q4.turnY st.1 st.2,q5.setCell oG _⟩
 have kn:((ff m.ys:Nat):Int)-1=(k:Int):=oM
 have kp:¬((ff m.ys:Nat):Int)=0:=oM
 have kl:(k:Int)<(m.2.length:Int):=oM
 have kz:(0:Int)<=(k:Int):=oM
 have kb:((ff m.ys:Nat):Int)<=1048576:=oM
 have aH:=HS.o.2.2.1.c1;have HFF:=hJ aB;clear k1 aG aB aD x0 HS;generalize hF:ff m.ys=F at*;go_wp2_with fail
 obtain⟨w5,aF,q2,q3,q4,q5⟩:=HX.o;rw[←aF];have aC:ROwns w5 0 4 (sL b5 m.5 d5) (fc m.fs)/\∀k,(sL b5 m.5 d5).ownBlock=some k->w.1.size+1+1<=k/\k<w2.1.size:=by
  exact cQ117
 refine(zf1 w2.1.size _ _ _ _ _ b5 d5 m.fs m.nx w5 q3 aC.1).mono ?_;rintro e w6 ⟨rfl,O6,G6⟩;have M6:=q4.turnF O6 G6;have q9:=q2.grown G6 (fun e=>by have:=aC.2 _ e;omega);have q8:=q3.grown G6 (fun e=>by have:=aC.2 _ e;omega);have bel6:Bw w w6:=q5.grown G6 q5.size (fun k hk=>by have:=aC.2 k hk;omega);obtain⟨r0,r1,r2,r3,r4,r5,r6⟩:=q9.k7;obtain⟨v0,v1,v2,v3,v4,v5,v6⟩:=q9.f7;obtain⟨y0,y1,y2,y3,y4,y5,y6⟩:=AtC.sev q8;have HM:Hid (MO ((w6.s0 (w.1.size+1) m b1 d1 (aA g 0) d2 b3 d3 b4 d4 b5 d5 b6 d6)) (fun k=>w.1.size<=k) (sL b1 m.1 d1) (sL (aA g 0) m.2 d2) (sL b3 m.3 d3) (sL b4 m.4 d4) (sL b5 m.5 d5) (sL b6 m.6 d6) (takeI m)/\Bw w ((w6.s0 (w.1.size+1) m b1 d1 (aA g 0) d2 b3 d3 b4 d4 b5 d5 b6 d6))):=by
  have e:takeI m={ m with ys:=m.ys.set k true,fs:=m.fs.set 0 true }:=by
   unfold takeI;rw[hF,if_neg oM,show F-1=k by omega]
  exact cQ24
 clear q9 q8 q2 q3 q4 q5 M6 O6 G6 bel6 aC HX aM aL aH aF;go_wp2;refine bY (v:=.tuple #[.agg (M7 m b1 d1 (aA g 0) d2 b3 d3 b4 d4 b5 d5 b6 d6),nI (F:Nat)]) sR7 rfl ⟨_,_,_,_,_,_,by rw[hF],HM.o.1,HM.o.2⟩
namespace Kit
theorem GN.appendX{α:Type}{K:Kn α}{w w2:Wd}{S:Nat->Prop}{v v':Va}{ts:List Row}{xs:List α}{t':Row}{x':α}(h:GN K w S v ts xs)(hO:K.O w t' x')(hn:∀k,(K.p t').ownBlock=some k->¬S k)
  (hr:NOwns w2 K.T K.n v' (ts++[t'])) (hg:w.grownBy w2 v.ownBlock) (hv:∀k,v'.ownBlock=some k->v.ownBlock=some k\/w.1.size<=k):GN K w2 (fun k=>(S k/\k<w.1.size)\/(K.p t').ownBlock=some k\/w.1.size<=k) v' (ts++[t']) (xs++[x']):=by
 have hl:=h.len;have aD:∀(i:Nat)(hi:i<ts.length)(k:Nat),(K.p ts[i]).ownBlock=some k->k<w.1.size:=fun i hi k hk=>K.lt (h.inn i hi oM) k hk;have aC:∀k,(K.p t').ownBlock=some k->k<w.1.size:=fun k hk=>K.lt hO k hk;have aG:∀k,v.ownBlock=some k->k<w.1.size:=h.row.lt;have aB:∀(i:Nat) (hi:i<(ts++[t']).length),(∃h':i<ts.length,(ts++[t'])[i]=ts[i])\/(i=ts.length/\(ts++[t'])[i]=t'):=fun i hi=>by
  by_cases e:i<ts.length
  ·exact .inl ⟨e,gL_ e⟩
  have e2:i=ts.length:=by simp at hi;omega
  refine .inr ⟨e2,?_⟩;subst e2;simp
 refine⟨by simp[hl],hr,fun i hi aH=>?_,fun i j hi hj aF k e1 e2=>?_,fun i hi k e1 e2=>?_,fun k e=>?_,fun i hi k e=>?_⟩
 ·rcases aB i hi with⟨h',e⟩| ⟨rfl,e⟩
  ·rw[e,gL_ oM];exact K.heap (h.inn i h' oM) fun k hk=>hg.block k (aD i h' k hk) (fun e=>h.out i h' k hk e.symm)
  have e2:(xs++[x'])[ts.length]=x':=by simp[hl]
  rw[e,e2];exact K.heap hO fun k hk=>hg.block k (aC k hk) (fun e=>hn k hk (h.so k e.symm))
 ·rcases aB i hi with⟨h1,q1⟩| ⟨q0,q1⟩<;>rcases aB j hj with⟨h2,q2⟩| ⟨q3,q2⟩<;>rw[q1]at e1<;>rw[q2]at e2
  ·exact h.sep i j h1 h2 aF k e1 e2
  ·exact hn k e2 (h.si i h1 k e1)
  ·exact hn k e1 (h.si j h2 k e2)
  omega
 ·rcases aB i hi with⟨h1,q1⟩| ⟨q0,q1⟩<;>rw[q1]at e1
  ·rcases hv k e2 with q|q
   ·exact h.out i h1 k e1 q
   have:=aD i h1 k e1;omega
  rcases hv k e2 with q|q
  ·exact hn k e1 (h.so k q)
  have:=aC k e1;omega
 ·rcases hv k e with q|q
  ·exact .inl ⟨h.so k q,aG k q⟩
  exact .inr (.inr q)
 rcases aB i hi with⟨h1,q1⟩| ⟨q0,q1⟩<;>rw[q1]at e
 ·exact .inl ⟨h.si i h1 k e,aD i h1 k e⟩
 exact .inr (.inl e)
theorem MO.appE{w:Wd}{S:Nat->Prop}{u v iv bv dv pv:Va}{m:MD}(h:MO w S u v iv bv dv pv m):
  ∃ts,NOwns w 42 11 pv ts/\ts.length=m.6.length/\∀(w2:Wd)(aF:Va)(t':Row)(x':Dp),KDep.O w t' x'->(∀k,(KDep.p t').ownBlock=some k->¬S k) ->
   NOwns w2 42 11 aF (ts++[t'])->w.grownBy w2 pv.ownBlock->(∀k,aF.ownBlock=some k->pv.ownBlock=some k\/w.1.size<=k)->∀nx:Int,MO w2 (fun k=>S k\/(KDep.p t').ownBlock=some k\/w.1.size<=k) u v iv bv dv aF { m with ds:=m.ds++[x'],nx:=nx }:=by
 obtain⟨S1,S2,S3,ts,h1,h2,h3,h4,h5,h6,h7⟩:=h.bound;refine⟨ts,h4.row,h4.len,fun w2 aF t' x' hO hn hr hg hv nx=>?_⟩;have aC:∀q,S1 q\/S2 q\/S3 q->q<w.1.size:=fun q hq=>(h7 q hq).2;have aB:∀q,S1 q\/S2 q\/S3 q->S q:=fun q hq=>(h7 q hq).1;have aD:∀k,k<w.1.size->pv.ownBlock≠some k->w2.1[k]?=w.1[k]?:=fun k hk aH=>hg.block k hk (fun e=>aH e.symm);refine⟨S1,S2,_,_,h1.of_heap fun k hk aG=>aD k aG (fun e=>(h5 k hk).2 (h4.so k e)),h2.of_heap fun k hk=>aD k (h2.lt k hk).2 (fun e=>h6 k (h3 k hk) (h4.so k e)),h3,h4.appendX hO (fun k hk e=>hn k hk (aB k (.inr (.inr e)))) hr hg hv,fun k hk=>⟨(h5 k hk).1,fun e=>?_⟩,fun k hk e=>?_,fun k hk=>?_⟩
 ·rcases e with e|e|e
  ·exact(h5 k hk).2 e.1
  ·exact hn k e (aB k (.inl hk))
  have:=aC k (.inl hk);omega
 ·rcases e with e|e|e
  ·exact h6 k hk e.1
  ·exact hn k e (aB k (.inr (.inl hk)))
  have:=aC k (.inr (.inl hk));omega
 rcases hk with hk|hk|hk|hk|hk
 ·exact .inl (aB k (.inl hk))
 ·exact .inl (aB k (.inr (.inl hk)))
 ·exact .inl (aB k (.inr (.inr hk.1)))
 ·exact .inr (.inl hk)
 exact .inr (.inr hk)
end Kit
namespace Kit
structure PM(w:Wd)(S:Nat->Prop)(b:Nat)(u v iv bv dv pv:Va)(m:MD):Prop where
 box:AtC w b 33 #[u,v,iv,bv,dv,pv,nI m.nx]
 own:MO w S u v iv bv dv pv m
 nb:¬S b
abbrev P7(w:Wd)(S:Nat->Prop)(b:Nat)(m:MD)(a1:OA)(c1:Nat)(a2:OA)(c2:Nat)(a3:OA)(c3:Nat)(a4:OA)(c4:Nat)(a5:OA)(c5:Nat)(a6:OA)(c6:Nat):Prop:=PM w S b (.slice a1 m.1.length c1) (.slice a2 m.2.length c2) (.slice a3 m.3.length c3) (.slice a4 m.4.length c4) (.slice a5 m.5.length c5) (.slice a6 m.6.length c6) m
namespace PM
variable {w w' : World} {S S' : Nat -> Prop} {b : Nat} {u v iv bv dv pv : Value} {m : MD}
theorem below(h:PM w S b u v iv bv dv pv m)(hb:Below w.1.size w w'):PM w' S b u v iv bv dv pv m:=⟨h.box.over hb,h.own.below hb nR,h.nb⟩
theorem alloc(h:PM w S b u v iv bv dv pv m)(o:Obj):PM (w.alloc o) S b u v iv bv dv pv m:=h.below ((Below.refl _ w).alloc nR o)
theorem drew(h:PM w S b u v iv bv dv pv m):PM w.drew S b u v iv bv dv pv m:=h.below bR.drew
theorem mono(h:PM w S b u v iv bv dv pv m)(hs:∀k,S k->S' k)(hb:¬S' b):PM w S' b u v iv bv dv pv m:=⟨h.box,h.own.mono hs,hb⟩
theorem bound(h:PM w S b u v iv bv dv pv m):PM w (fun k=>S k/\k<w.1.size) b u v iv bv dv pv m:=⟨h.box,h.own.bound,fun e=>h.nb e.1⟩
theorem mr(h:PM w S b u v iv bv dv pv m):MR w u v iv bv dv pv m:=h.own.mr
theorem new(h:MO w S u v iv bv dv pv m):PM (w.alloc (.cells #[u,v,iv,bv,dv,pv,.int .i64 m.nx] 33)) (fun k=>S k/\k<w.1.size) w.1.size u v iv bv dv pv m :=
 ⟨AtC.new w 33 _,h.bound.alloc _,fun e=>Nat.lt_irrefl _ e.2⟩
theorem form(h:PM w S b u v iv bv dv pv m):∃a1 c1 a2 c2 a3 c3 a4 c4 a5 c5 a6 c6,u=.slice a1 m.1.length c1/\v=.slice a2 m.2.length c2/\iv=.slice a3 m.3.length c3/\bv=.slice a4 m.4.length c4/\dv=.slice a5 m.5.length c5/\pv=.slice a6 m.6.length c6:=h.own.mr.form
theorem soF(h:PM w S b u v iv bv dv pv m):∀k,dv.ownBlock=some k->S k:=by
 obtain⟨S1,S2,S3,ts,-,-,k3,-,-,-,k7⟩:=h.own;exact fun k hk=>k7 k (.inr (.inl (k3 k hk)))
theorem turnF(h:PM w S b u v iv bv dv pv m){l:List Bool}(hr:ROwns w' 0 4 dv (fc l))(hg:w.grownBy w' dv.ownBlock):PM w' S b u v iv bv dv pv { m with fs:=l } :=
 ⟨h.box.grown hg (fun e=>h.nb (h.soF b e)),h.own.turnF hr hg,h.nb⟩
theorem chgF(h:PM w S b u v iv bv dv pv m)(hg:w.grownBy w' dv.ownBlock):Chg S w w':=Chg.of_grown hg fun k hk=>h.soF k hk
theorem ownF(h:PM w S b u v iv bv dv pv m):ROwns w 0 4 dv (fc m.fs):=by
 obtain⟨S1,S2,S3,ts,-,k2,-⟩:=h.own;exact k2
end PM
def markU(u:Int)(m:MD):MD:=if 0<=u/\u<(m.5.length:Int)then{ m with fs:=m.fs.set u.toNat true }else m
theorem markU_nx(u:Int)(m:MD):(markU u m).nx=m.nx:=by unfold markU;split<;>rfl
end Kit
theorem zbz(S:Nat->Prop)(b:Nat)(x:Int)(u v iv bv dv pv:Va)(m:MD)(w:Wd)(h:PM w S b u v iv bv dv pv m):
  Calls Tryz.prog 197 #[.pointer (aA b 0),nI x] w fun e w'=>e=.returned (.tuple #[])/\PM w' S b u v iv bv dv pv (markU x m)/\Chg S w w':=by
 obtain⟨a1,c1,a2,c2,a3,c3,a4,c4,a5,c5,a6,c6,rfl,rfl,rfl,rfl,rfl,rfl⟩:=h.form;have x4:=h.box.c4;have H:=hJ h;by_cases h0:0<=x
 ·have H0:=hJ h0;by_cases h1:x<(m.5.length:Int)
  ·have H1:=hJ h1;obtain⟨n,rfl⟩:∃n:Nat,x=(n:Int):=⟨x.toNat,oM⟩
   have hn:n<m.5.length:=oM
   obtain⟨g,cap,e1,k1,k2,k3,k4⟩:=h.ownF.at n (by rw[zad];exact hn);rw[zad]at e1;simp only[vJ,true_and]at e1;obtain⟨rfl,rfl⟩:=e1;have aB:w.cell? ⟨g,n,none⟩=some (.bool m.fs[n]):=k1.trans (by simp[fc,hn]);generalize m.fs[n]=t0 at aB;have HS:=hJ (ROwns.stored (l:=fc m.fs) (g:=g) (cap:=c5) (by rw[zad];exact h.ownF) n (.bool true));have hd:=dT h1;clear k1 h;go_enter Tryz.func197,Tryz.ntmps197
   go_wp2
   go_end0
   have q:=HS.o.1;have q2:=HS.o.2;rw[zad,←zcl]at q;have e:markU (n:Int) m={ m with fs:=m.fs.set n true }:=by unfold markU;rw[if_pos ⟨H0.o,H1.o⟩];rfl
   rw[e];exact⟨rfl,H.out.turnF q q2,H.out.chgF q2⟩
  exact cQ58
 exact cQ72
def inB(x a b:Int):Bool:=decide (a<=x/\x<=b)
theorem zay{x a b:Int}(h:inB x a b=true):a<=x/\x<=b:=of_decide_eq_true h
theorem zak(x a b:Int)(w:Wd):
  Calls Tryz.prog 50 #[nI x,nI a,nI b] w fun e w'=>e=.returned (.bool (inB x a b))/\w'=w:=by
 by_cases h0:a<=x
 ·by_cases h1:x<=b
  ·have hv:inB x a b=true:=by simp[inB,h0,h1]
   exact cQ68
  have hv:inB x a b=false:=by simp[inB,h1]
  exact cQ68
 have hv:inB x a b=false:=by simp[inB,h0]
 exact cQ68
theorem ze7(v:Va)(l:List Int)(x:Int)(w:Wd)(h:RInts w v l)(hl:l.length<=1048576):
  Calls Tryz.prog 217 #[v,nI x] w fun e w'=>e=.returned (.bool (l.contains x))/\w'=w:=by
 obtain⟨a1,c1,rfl,ha⟩:=h;have HA:=hJ ha;clear ha;go_enter Tryz.func217,Tryz.ntmps217
 go_wp2;go_loopw [5] (fun i wr=>∃j:Nat,j<=l.length/\i=.int .i64 j/\w=wr/\Hid ((l.take j).contains x=false)) (fun i _=>l.length-(intOf i).toNat)
 case atStart=>exact⟨0,zL _,rfl,rfl,by show(l.take 0).contains x=false;simp⟩
 obtain⟨j,hj,rfl,rfl,HT⟩:=hrel;by_cases hlt:j<l.length
 ·obtain⟨g1,o1,rfl,_,k1⟩:=HA.o j hlt;have HJ:Hid (l[j]∈l/\(l.take (j+1)).contains x=((l.take j).contains x || x==l[j])):=by
   refine⟨gM_ hlt,?_⟩;rw[show l.take (j+1)=l.take j++[l[j]]from(tG hlt).symm];exact Bool.eq_iff_iff.2 (by simp only[List.contains_iff_mem,List.mem_append,List.mem_singleton,Bool.or_eq_true,beq_iff_eq])
  obtain⟨t,ht⟩:∃t,l[j]=t:=⟨_,rfl⟩
  rw[ht]at k1 HJ;clear ht;have j0:(0:Int)<=(j:Int):=oM
  have j1:(j:Int)<(l.length:Int):=oM
  by_cases hx:t=x
  ·subst hx;go_wp2;go_ret;have:=HJ.o.1;exact⟨by rw[show l.contains t=true by simpa using this];rfl,rfl⟩
  have HX:=hJ hx;go_wp2;go_roundw
  case rel =>
   refine⟨j+1,oM,gK,by first| trivial|rfl,?_⟩;show(l.take (j+1)).contains x=false;have q:=HX.o;rw[HJ.o.2,HT.o,Bool.false_or];exact beq_false_of_ne (fun e=>q e.symm)
  simp[intOf];omega
 have aB:j=l.length:=oM
 have HF:Hid (l.contains x=false):=by
  have:=HT.o;rw[aB,List.take_length]at this;exact this
 go_wp2;go_ret;exact⟨by rw[HF.o];rfl,rfl⟩
theorem ziu(v:Va)(ds:List Dp)(x:Int)(w:Wd)(h:RN KDep w v ds)(hl:ds.length<=1048576):
  Calls Tryz.prog 224 #[v,nI x] w fun e w'=>(∃b,e=.returned (.bool b))/\w'=w:=by
 obtain⟨a1,c1,rfl,-,ha⟩:=h;have HA:=hJ ha;clear ha;go_enter Tryz.func224,Tryz.ntmps224
 go_wp2;go_loopw [5] (fun i wr=>∃j:Nat,j<=ds.length/\i=.int .i64 j/\w=wr) (fun i _=>ds.length-(intOf i).toNat)
 case atStart=>exact⟨0,zL _,rfl,rfl⟩
 obtain⟨j,hj,rfl,rfl⟩:=hrel;by_cases hlt:j<ds.length
 ·obtain⟨g,aC,t,rfl,-,hc,p,rfl,-⟩:=HA.o j hlt;have k1:w.cell? ⟨g,aC+j*11+1,none⟩=some (nI ds[j].kd):=hc 1 dC;have k4:w.cell? ⟨g,aC+j*11+4,none⟩=some (nI ds[j].bk):=hc 4 dC;generalize ds[j].kd=kd at k1;generalize ds[j].bk=bk at k4;clear hc;have j0:(0:Int)<=(j:Int):=oM
  have j1:(j:Int)<(ds.length:Int):=oM
  have aB:((kd=1\/kd=6)/\bk=x)\/¬((kd=1\/kd=6)/\bk=x):=Classical.em _;rcases aB with⟨hk,hb⟩| hn
  ·subst hb;rcases hk with rfl|rfl<;>(go_wp2;go_ret;exact⟨⟨_,rfl⟩,rfl⟩)
  by_cases h1:kd=1
  ·subst h1;have hb:¬bk=x:=fun e=>hn ⟨.inl rfl,e⟩;clear hn;go_wp2;go_roundw
   case rel=>exact⟨j+1,oM,gK,by first| trivial|rfl⟩
   simp[intOf];omega
  by_cases h6:kd=6
  ·subst h6;have hb:¬bk=x:=fun e=>hn ⟨.inr rfl,e⟩;clear hn;go_wp2;go_roundw
   case rel=>exact⟨j+1,oM,gK,by first| trivial|rfl⟩
   simp[intOf];omega
  clear hn;go_wp2;go_roundw
  case rel=>exact⟨j+1,oM,gK,by first| trivial|rfl⟩
  simp[intOf];omega
 go_wp2;go_ret;exact⟨⟨_,rfl⟩,rfl⟩
def uoI(i:Int):Int:=if inB i 1 8 then 1+(i-1)/2 else -1
def uoB(p:Int):Int:=if inB p 1 16 then p+4 else -1
theorem zbp(i:Int)(w:Wd):Calls Tryz.prog 198 #[nI i] w fun e w'=>e=.returned (nI (uoI i))/\w'=w:=by
 go_enter Tryz.func198,Tryz.ntmps198
 go_wp2_with fail
 refine(zak i 1 8 _).mono ?_;rintro e w1 ⟨rfl,rfl⟩
 cases hb:inB i 1 8 with
 | true =>
  have HB:=hJ hb;obtain⟨h1,h2⟩:=zay hb;clear hb;have hd:(i-1).tdiv 2=(i-1)/2:=Int.tdiv_eq_ediv_of_nonneg oM;go_wp2;go_ret;exact⟨by unfold uoI;rw[HB.o];rfl,rfl⟩
 | false =>
  have HB:=hJ hb;clear hb;go_wp2;go_ret;exact⟨by unfold uoI;rw[HB.o];rfl,rfl⟩
theorem zbl(i:Int)(w:Wd):Calls Tryz.prog 203 #[nI i] w fun e w'=>e=.returned (nI (uoB i))/\w'=w:=by
 go_enter Tryz.func203,Tryz.ntmps203
 go_wp2_with fail
 refine(zak i 1 16 _).mono ?_;rintro e w1 ⟨rfl,rfl⟩
 cases hb:inB i 1 16 with
 | true =>
  have HB:=hJ hb;obtain⟨h1,h2⟩:=zay hb;clear hb;go_wp2;go_ret;exact⟨by unfold uoB;rw[HB.o];rfl,rfl⟩
 | false =>
  have HB:=hJ hb;clear hb;go_wp2;go_ret;exact⟨by unfold uoB;rw[HB.o];rfl,rfl⟩
theorem kind_any(S:Nat->Prop)(b:Nat)(x:Int)(u v iv bv dv pv:Va)(m:MD)(w:Wd)(h:PM w S b u v iv bv dv pv m)(hl:m.6.length<=1048576):
  Calls Tryz.prog 223 #[.pointer (aA b 0),nI x] w fun e w'=>(∃k:Int,e=.returned (nI k))/\w'=w:=by
 obtain⟨a6,c6,rfl,-,ha⟩:=h.mr.p;have x5:=h.box.c5;have HA:=hJ ha;clear ha h;go_enter Tryz.func223,Tryz.ntmps223
 exact cQ25
namespace Kit
def val:List UInt8->Nat
 | []=>0
 | c::r=>c.toNat%128+128*val r
theorem zdt(l:List UInt8)(c:UInt8):val (l++[c])=val l+c.toNat%128*128 ^ l.length:=by
 induction l with
 | nil=>simp[val]
 | cons a r ih =>
  simp only[List.cons_append,val,ih,lC];rw[Nat.pow_succ,Nat.mul_add,Nat.add_assoc,←Nat.mul_assoc,←Nat.mul_assoc,Nat.mul_comm (c.toNat%128*128 ^ r.length) 128,Nat.mul_assoc]
theorem val_lt(l:List UInt8):val l<128 ^ l.length:=by
 induction l with
 | nil=>simp[val]
 | cons a r ih =>
  simp only[val,lC];rw[Nat.pow_succ];have:a.toNat%128<128:=Nat.mod_lt _ dC;omega
def rdF:Nat->List UInt8->Nat->Nat->Option (Nat×Nat)
 | 0,_,_,_=>none
 | _+1,[],_,_=>none
 | f+1,c::r,k,n=>if 128<=c.toNat then rdF f r (k+1) (n+c.toNat%128*128 ^ k)
   else if 1000000000<n+c.toNat%128*128 ^ k\/(c.toNat=0/\0<k)then none else some (n+c.toNat%128*128 ^ k,k+1)
def rd(s:BA)(p:Nat):Option (Nat×Nat):=rdF 5 (s.data.toList.drop p) 0 0
theorem vbF_ne(f n:Nat):vbF f n≠[]:=by
 cases f with
 | zero=>simp[vbF]
 | succ f=>unfold vbF;split<;>simp
theorem vbF_last(f:Nat):∀n,0<n->n<128 ^ (f+1)->∀l c,vbF f n=l++[c]->c.toNat≠0:=by
 induction f with
 | zero =>
  intro n h0 h1 l c h;simp only[vbF]at h;have:c=loB n:=by
   cases l with
   | nil=>simpa using h.symm
   | cons a t=>simp at h
  subst this;have h2:n<128:=by simpa using h1
  simp[loB,UInt8.toNat_ofNat'];omega
 | succ f ih =>
  intro n h0 h1 l c h;by_cases hb:127<n
  ·rw[ziq f n hb]at h
   cases l with
   | nil=>simp at h;exact absurd h.2 (vbF_ne _ _)
   | cons a t =>
    simp at h;refine ih (n/128) oM ?_ t c h.2;rw[Nat.pow_succ]at h1;omega
  rw[zdm _ n oM]at h;have:c=loB n:=by
   cases l with
   | nil=>simpa using h.symm
   | cons a t=>simp at h
  subst this;simp[loB,UInt8.toNat_ofNat'];omega
theorem vbF_val(pre:List UInt8):∀(f:Nat)(c:UInt8),pre.length<=f->(∀b∈pre,128<=b.toNat)->c.toNat<128->(c.toNat≠0\/pre=[]) ->
  vbF f (val (pre++[c]))=pre++[c]:=by
 induction pre with
 | nil =>
  intro f c _ _ hc _;have hv:val ([]++[c])=c.toNat:=by simp[val];omega
  rw[hv,zdm _ _ oM];simp[loB]
 | cons b r ih =>
  intro f c hl hb hc hn;have aB:c.toNat≠0:=by simpa using hn
  cases f with
  | zero=>simp at hl
  | succ f =>
   have aD:128<=b.toNat:=hb b sI;have aF:b.toNat<256:=b.toNat_lt;have aC:0<val (r++[c]):=by
    rw[zdt];have h1:0<128 ^ r.length:=Nat.pow_pos dC;have h2:0<c.toNat%128:=oM
    have:=Nat.mul_pos h2 h1;omega
   have hv:val (b::r++[c])=b.toNat%128+128*val (r++[c]):=rfl;rw[hv,ziq f _ oM];have e1:(b.toNat%128+128*val (r++[c]))/128=val (r++[c]):=oM
   have e2:hiB (b.toNat%128+128*val (r++[c]))=b:=by
    unfold hiB;rw[show(b.toNat%128+128*val (r++[c]))%128+128=b.toNat by omega];simp
   rw[e1,e2,ih f c (by simpa using hl) (fun x hx=>hb x (by simp[hx])) hc (.inl aB)];rfl
theorem zf3(pre:List UInt8)(c:UInt8)(hl:pre.length<=8)(hb:∀b∈pre,128<=b.toNat)(hc:c.toNat<128):
  vb (val (pre++[c]))=pre++[c]↔¬(c.toNat=0/\0<pre.length):=by
 constructor
 ·rintro h ⟨h0,hp⟩;by_cases hz:val (pre++[c])=0
  ·rw[hz]at h;have:(vb 0).length=1:=rfl;rw[h]at this;simp at this;simp[this]at hp
  have aB:=val_lt (pre++[c]);have aC:128 ^ (pre++[c]).length<=128 ^ (9+1):=Nat.pow_le_pow_right dC sO;exact vbF_last 9 _ oM oM pre c h h0
 intro h;refine vbF_val pre 9 c oM hb hc ?_;by_cases h0:c.toNat=0
 ·right
  have:¬0<pre.length:=fun hp=>h ⟨h0,hp⟩;exact List.length_eq_zero_iff.1 oM
 exact .inl h0
def AtK(s:BA)(p k n:Nat):Prop :=
 ∃pre rest:List UInt8,s.data.toList.drop p=pre++rest/\pre.length=k/\(∀b∈pre,128<=b.toNat)/\n=val pre/\rd s p=rdF (5-k) rest k n
theorem AtK.start(s:BA)(p:Nat):AtK s p 0 0:=⟨[],s.data.toList.drop p,rfl,rfl,sI,rfl,rfl⟩
theorem AtK.lt{s:BA}{p k n:Nat}(h:AtK s p k n):n<128 ^ k:=by
 obtain⟨pre,rest,_,rfl,_,rfl,_⟩:=h;exact val_lt pre
theorem zfa{s:BA}{p k:Nat}{pre rest:List UInt8}(h:s.data.toList.drop p=pre++rest)(hk:pre.length=k)(hlt:p+k<s.size):rest=s[p+k]::rest.tail:=by
 have h1:(s.data.toList.drop p).drop k=rest:=by rw[h,←hk];simp
 rw[List.drop_drop]at h1;have h2:p+k<s.data.toList.length:=by simpa using hlt
 rw[dG h2]at h1;rw[←h1];rfl
theorem AtK.out{s:BA}{p k n:Nat}(h:AtK s p k n)(hx:s.size<=p+k\/5<=k):rd s p=none:=by
 obtain⟨pre,rest,hd,hk,_,rfl,hr⟩:=h;rw[hr];by_cases h5:5<=k
 ·rw[show 5-k=0 by omega];rfl
 have hs:s.size<=p+k:=oM
 have:rest=[]:=by
  have hl:=congrArg List.length hd;simp at hl;apply List.length_eq_zero_iff.1;have:s.data.size=s.size:=rfl;omega
 subst this;rw[show 5-k=(4-k)+1 by omega];rfl
theorem AtK.next{s:BA}{p k n:Nat}(h:AtK s p k n)(hlt:p+k<s.size)(h5:k<5)(hc:128<=(s[p+k]).toNat):
  AtK s p (k+1) (n+(s[p+k]).toNat%128*128 ^ k):=by
 obtain⟨pre,rest,hd,hk,hb,rfl,hr⟩:=h;have aB:=zfa hd hk hlt;refine⟨pre++[s[p+k]],rest.tail,?_,by simp[hk],?_,?_,?_⟩
 ·rw[hd];simp[List.append_assoc,←aB]
 ·intro b aC;rcases List.mem_append.1 aC with h1|h1
  ·exact hb b h1
  simp at h1;subst h1;exact hc
 ·rw[zdt,hk]
 rw[hr]
 conv=>lhs;rw[aB,show 5-k=(5-(k+1))+1 by omega]
 rw[rdF,if_pos hc]
theorem AtK.stop{s:BA}{p k n:Nat}(h:AtK s p k n)(hlt:p+k<s.size)(h5:k<5)(hc:(s[p+k]).toNat<128):
  rd s p=if 1000000000<n+(s[p+k]).toNat%128*128 ^ k\/((s[p+k]).toNat=0/\0<k)then none else some (n+(s[p+k]).toNat%128*128 ^ k,k+1):=by
 obtain⟨pre,rest,hd,hk,hb,rfl,hr⟩:=h;have aB:=zfa hd hk hlt;rw[hr]
 conv=>lhs;rw[aB,show 5-k=(5-(k+1))+1 by omega]
 rw[rdF,if_neg oM]
theorem zb9(s:BA)(a b:Nat):(s.extract a b).data.toList=(s.data.toList.drop a).take (b-a):=by
 simp[ByteArray.data_extract,List.take_drop]
theorem AtK.form{s:BA}{p k n:Nat}(h:AtK s p k n)(hlt:p+k<s.size)(h5:k<5)(hc:(s[p+k]).toNat<128):
  vb (n+(s[p+k]).toNat%128*128 ^ k)=(s.extract p (p+k+1)).data.toList↔¬((s[p+k]).toNat=0/\0<k):=by
 obtain⟨pre,rest,hd,hk,hb,rfl,_⟩:=h;have aB:=zfa hd hk hlt;have e:(s.extract p (p+k+1)).data.toList=pre++[s[p+k]]:=by
  rw[zb9,hd,aB,show p+k+1-p=pre.length+1 by omega,List.take_append];simp[tL]
 have:=zf3 pre s[p+k] oM hb hc;rw[zdt,hk]at this;rw[e];exact this
end Kit
end Go.Proofs.YtgnplpmgkegcnaaGreat
