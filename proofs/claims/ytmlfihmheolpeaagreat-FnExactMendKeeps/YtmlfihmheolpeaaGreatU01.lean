/- Texts of the proof, bundled. -/
import Derived.WalkKit
import Derived.Below
import Derived.WalkSpells
import Derived.WalkLawsBesides
import Derived.Laws.IdiomStrings
import Derived.Deep.AppendLies
import Derived.Test.YtmlfihmheolpeaaGreatRows
import Derived.Handy
import Derived.Deep.QuietTactic
import Derived.BigQuiet
import Derived.Deep.OwnRows
import Derived.Deep.RegionHeld3
import Derived.ProofKit
import Derived.OpenShut
import Derived.ShutString
import Derived.ChangeOld
import Derived.Lib.SmallJoins
import Derived.Deep.SlicePairs
import Derived.Deep.Grids
import Derived.Deep.Upon
import Derived.Deep.RegionWith
import Derived.RegionTactic
import Derived.BigRegion
import Derived.Deep.RegionHeld
set_option maxRecDepth 100000
set_option maxHeartbeats 12800000
namespace Go.Proofs.YtmlfihmheolpeaaGreat
namespace Kit
open Go.RowKit
theorem hide {p:Prop}(h:p):Hid p:=h
theorem bR {n:Nat}{w:World}:Below n w w:=Below.refl _ _
theorem nR {n:Nat}:n<=n:=Nat.le_refl _
theorem mz0 {a:Nat}{l:List Nat}:a∈a::l:=.head _
theorem mz1 {a b:Nat}{l:List Nat}:a∈b::a::l:=.tail _ mz0
theorem mz2 {a b c:Nat}{l:List Nat}:a∈b::c::a::l:=.tail _ mz1
theorem mz3 {a b c d:Nat}{l:List Nat}:a∈b::c::d::a::l:=.tail _ mz2
theorem mz4 {a b c d e:Nat}{l:List Nat}:a∈b::c::d::e::a::l:=.tail _ mz3
theorem mz5 {a b c d e f:Nat}{l:List Nat}:a∈b::c::d::e::f::a::l:=.tail _ mz4
def bc (l:List UInt8):List Value:=l.map fun b=>Value.int .u8 (b.toNat:Int)
def Owns (w:World) (base:Nat) (e:TypeId) (v:Value) (l:List UInt8):Prop:=w.ownsRow base e 1 v l.length (bc l)
theorem Owns.alloc {w:World}{base:Nat}{e:TypeId}{v:Value}{l:List UInt8}(h:Owns w base e v l)(o:Obj):Owns (w.alloc o) base e v l:=World.ownsRow.alloc h o
theorem Owns.drew {w:World}{base:Nat}{e:TypeId}{v:Value}{l:List UInt8}(h:Owns w base e v l):Owns w.drew base e v l:=World.ownsRow.drew h
theorem Owns.nil (w:World)(base:Nat)(e:TypeId):Owns w base e (.slice none 0 0) []:=World.ownsRow_nil _ _ _ _
theorem Owns.lit0 (w:World)(base:Nat)(e:TypeId)(hb:base<=w.heap.size):Owns (w.alloc (.cells #[] e)) base e (.slice (some ⟨w.heap.size,0,none⟩) 0 0) [] :=
 World.ownsRow_lit w #[] 0 hb (Nat.zero_le _) rfl
def hiB (m:Nat):UInt8:=UInt8.ofNat (m % 128+128)
def loB (m:Nat):UInt8:=UInt8.ofNat m
def vbF:Nat->Nat->List UInt8
 | 0,n=>[loB n]
 | f+1,n=>if 127 < n then hiB n :: vbF f (n / 128) else [loB n]
def vb (n:Nat):List UInt8:=vbF 9 n
theorem zmn (f n:Nat)(h:127 < n):vbF (f+1) n=hiB n :: vbF f (n / 128):=by simp [vbF,h]
theorem zia (f n:Nat)(h:n<=127):vbF f n=[loB n]:=by
 cases f with
 | zero=>rfl
 | succ f=>simp [vbF];omega
def Lies (w:World) (B:Nat) (s:ByteArray):Prop:=∃ cur e fr,w.heap[B]?=some (.cells cur e fr)/\∀ (k:Nat) (h:k < s.size),cur[k]?=some (.int .u8 (s[k].toNat:Int))
theorem Lies.cell {w:World}{B:Nat}{s:ByteArray}(h:Lies w B s)(k:Nat)(hk:k < s.size):w.cell? ⟨B,k,none⟩=some (.int .u8 (s[k].toNat:Int)):=by
 obtain ⟨cur,e,fr,h1,h2⟩:=h;rw [cell_of_row w B k cur e fr h1,h2 k hk]
theorem Lies.of_heap {w w':World}{B:Nat}{s:ByteArray}(h:Lies w B s)(he:w'.heap[B]?=w.heap[B]?):Lies w' B s:=by
 obtain ⟨cur,e,fr,h1,h2⟩:=h;exact ⟨cur,e,fr,by rw [he,h1],h2⟩
theorem Lies.lt {w:World}{B:Nat}{s:ByteArray}(h:Lies w B s):B < w.heap.size:=by
 obtain ⟨cur,e,fr,h1,_⟩:=h;exact (Array.getElem?_eq_some_iff.1 h1).1
theorem lies_new (w:World)(s:ByteArray)(n:Nat)(e:TypeId)(fr:Nat×Nat):Lies (w.alloc (.cells (bytesRow s n) e fr)) w.heap.size s:=by
 refine ⟨bytesRow s n,e,fr,?_,?_⟩
 ·show (w.heap.push _)[w.heap.size]?=_;simp
 ·intro k hk;have e1:s.data[k]?=some s[k]:=Array.getElem?_eq_getElem (show k < s.data.size from hk);simp only [bytesRow,Array.getElem?_append,Array.size_map];rw [if_pos (show k < s.data.size from hk),Array.getElem?_map,e1];rfl
theorem zaa {w w1:World}(h:Below w.drew.heap.size w.drew w1):Below w.heap.size w w1:=(Below.refl _ w).drew.trans h
end Kit
namespace Kit
open Go.RowKit
def ROwns (w:World) (base:Nat) (e:TypeId) (v:Value) (xs:List Value):Prop:=w.ownsRow base e 1 v xs.length xs
theorem ROwns.alloc {w:World}{base:Nat}{e:TypeId}{v:Value}{l:List Value}(h:ROwns w base e v l)(o:Obj):ROwns (w.alloc o) base e v l:=World.ownsRow.alloc h o
theorem ROwns.drew {w:World}{base:Nat}{e:TypeId}{v:Value}{l:List Value}(h:ROwns w base e v l):ROwns w.drew base e v l:=World.ownsRow.drew h
theorem ROwns.nil (w:World)(base:Nat)(e:TypeId):ROwns w base e (.slice none 0 0) []:=World.ownsRow_nil _ _ _ _
theorem ROwns.lit0 (w:World)(base:Nat)(e:TypeId)(hb:base<=w.heap.size):ROwns (w.alloc (.cells #[] e)) base e (.slice (some ⟨w.heap.size,0,none⟩) 0 0) [] :=
 World.ownsRow_lit w #[] 0 hb (Nat.zero_le _) rfl
theorem ROwns.lit (w:World)(base:Nat)(e:TypeId)(cs:Array Value)(hb:base<=w.heap.size)(hm:cs.size<=maxLen):ROwns (w.alloc (.cells cs e)) base e (.slice (some ⟨w.heap.size,0,none⟩) cs.size cs.size) cs.toList:=by
 have:=World.ownsRow_lit (base:=base) (e:=e) (size:=1) w cs cs.size hb hm (by omega);unfold ROwns
 rwa [Array.length_toList]
theorem ROwns.lt {w:World}{base:Nat}{e:TypeId}{v:Value}{l:List Value}(h:ROwns w base e v l):∀ k,v.ownBlock=some k->base<=k/\k < w.heap.size:=World.ownsRow.lt h
theorem ROwns.base_le {w:World}{base base':Nat}{e:TypeId}{v:Value}{l:List Value}(h:ROwns w base e v l)(hb:base'<=base):ROwns w base' e v l:=by
 refine ⟨h.1,?_⟩;rcases h.2 with h1 | ⟨g,cap,cur,h1,h2,h3⟩
 ·exact .inl h1
 ·exact .inr ⟨g,cap,cur,h1,by omega,h3⟩
theorem ROwns.form {w:World}{base:Nat}{e:TypeId}{v:Value}{l:List Value}(h:ROwns w base e v l):∃ a cap,v=.slice a l.length cap/\(a=none->l=[]):=by
 rcases h.2 with ⟨rfl,h0⟩ | ⟨g,cap,cur,rfl,_⟩
 ·exact ⟨none,0,by rw [h0],fun _=>List.length_eq_zero_iff.1 h0⟩
 ·exact ⟨_,_,rfl,fun h=>by cases h⟩
theorem ROwns.of_heap {w w':World}{base:Nat}{e:TypeId}{v:Value}{l:List Value}(h:ROwns w base e v l)(hh:∀ k,v.ownBlock=some k->w'.heap[k]?=w.heap[k]?):ROwns w' base e v l:=by
 refine ⟨h.1,?_⟩;rcases h.2 with h1 | ⟨g,cap,cur,h1,h2,h3,h4⟩
 ·exact .inl h1
 ·exact .inr ⟨g,cap,cur,h1,h2,by rw [hh g (by rw [h1];rfl),h3],h4⟩
theorem ROwns.below {w w':World}{base B:Nat}{e:TypeId}{v:Value}{l:List Value}(h:ROwns w base e v l)(hb:Below B w w')(hB:w.heap.size<=B):ROwns w' base e v l :=
 h.of_heap fun k hk=>hb.block k (by have:=(h.lt k hk).2;omega)
theorem ROwns.grown {w w':World}{base:Nat}{e:TypeId}{v:Value}{l:List Value}{row:Option Nat}(h:ROwns w base e v l)(hg:w.grownBy w' row)(hn:∀ k,v.ownBlock=some k->row≠some k):ROwns w' base e v l :=
 h.of_heap fun k hk=>hg.block k (h.lt k hk).2 (fun e=>hn k hk e.symm)
theorem zcn {w w':World}(h:Below w.heap.size w w')(row:Option Nat):w.grownBy w' row:=⟨h.os,h.tape,h.output,h.size,fun k hk _=>h.block k hk⟩
theorem zg0 {a b c:World}{row:Option Nat}(h:a.grownBy b row)(k:b.grownBy c row):a.grownBy c row :=
 ⟨k.os.trans h.os,k.tape.trans h.tape,k.output.trans h.output,Nat.le_trans h.size k.size,fun i hi hr=>(k.block i (by have:=h.size;omega) hr).trans (h.block i hi hr)⟩
theorem ROwns.at {w:World}{base:Nat}{e:TypeId}{v:Value}{l:List Value}(h:ROwns w base e v l)(k:Nat)(hk:k < l.length) :
  ∃ g cap,v=.slice (some ⟨g,0,none⟩) l.length cap/\w.cell? ⟨g,k,none⟩=l[k]?/\w.frozen? ⟨g,k,none⟩=false/\base<=g/\g < w.heap.size/\l.length<=cap:=by
 have hlt:=h.lt;rcases h.2 with ⟨h1,h0⟩ | ⟨g,cap,cur,rfl,h2,h3,h4,h5,h6,h7⟩
 ·omega
 ·have h':w.ownsRow base e 1 (.slice (some ⟨g,0,none⟩) l.length cap) l.length l:=h;exact ⟨g,cap,rfl,h'.cellAt k (by omega),h'.frozenAt k,h2,(hlt g rfl).2,h4⟩
theorem ROwns.stored {w:World}{base g cap:Nat}{e:TypeId}{l:List Value}(h:ROwns w base e (.slice (some ⟨g,0,none⟩) l.length cap) l)(k:Nat)(u:Value) :
  ROwns (w.setCell ⟨g,k,none⟩ u) base e (.slice (some ⟨g,0,none⟩) l.length cap) (l.set k u)/\w.grownBy (w.setCell ⟨g,k,none⟩ u) (some g):=by
 have:=World.ownsRow.stored h k u;refine ⟨?_,this.2⟩;unfold ROwns;rw [List.length_set];exact this.1
end Kit
namespace Kit
open Go.RowKit
theorem ROwns.setCell_other {w:World}{base:Nat}{e:TypeId}{v:Value}{l:List Value}(h:ROwns w base e v l){b j:Nat}(hp:b < base)(x:Value):ROwns (w.setCell ⟨b,j,none⟩ x) base e v l :=
 h.of_heap fun k hk=>heap_setCell_other w ⟨b,j,none⟩ k x (fun e=>by have:=(h.lt k hk).1;simp at e;omega)
theorem zc6 (w:World)(o:Obj):(w.alloc o).heap[w.heap.size]?=some o:=by
 show (w.heap.push o)[w.heap.size]?=some o;simp
end Kit
open Go.RowKit Kit
theorem Tryz.i5:(Tryz.prog.info? 5).map (fun i=>(i.zero,i.size,i.bytes))=some (some (.int .u8 0),1,1):=by kernel_rfl
theorem zac {b c:Bool}(h:b=c):Ending.returned (.bool b)=.returned (.bool c):=by rw [h]
namespace Kit
abbrev Sl:=ByteArray×Int
def sc:List Sl->List Value
 | []=>[]
 | s :: r=>.string s.1 :: .int .i64 s.2 :: sc r
theorem zb5 (xs:List Sl):(sc xs).length=xs.length * 2:=by
 induction xs with
 | nil=>rfl
 | cons s r ih=>simp [sc,ih];omega
theorem zib (a b:List Sl):sc (a ++ b)=sc a ++ sc b:=by
 induction a with
 | nil=>rfl
 | cons s r ih=>simp [sc,ih]
theorem zg1 (xs:List Sl)(j:Nat)(h:j < xs.length):(sc xs)[j * 2]?=some (.string xs[j].1):=by
 induction xs generalizing j with
 | nil=>simp at h
 | cons s r ih =>
  cases j with
  | zero=>rfl
  | succ j =>
   rw [show (j+1) * 2=j * 2+1+1 by omega];simp only [sc,List.getElem?_cons_succ,List.getElem_cons_succ];exact ih j (by simpa using h)
theorem zkn (xs:List Sl)(j:Nat)(h:j < xs.length):(sc xs)[j * 2+1]?=some (.int .i64 xs[j].2):=by
 induction xs generalizing j with
 | nil=>simp at h
 | cons s r ih =>
  cases j with
  | zero=>rfl
  | succ j =>
   rw [show (j+1) * 2+1=j * 2+1+1+1 by omega];simp only [sc,List.getElem?_cons_succ,List.getElem_cons_succ];exact ih j (by simpa using h)
theorem zjq (xs:List Sl)(j:Nat)(t:ByteArray)(h:j < xs.length):(sc xs).set (j * 2) (.string t)=sc (xs.set j (t,xs[j].2)):=by
 induction xs generalizing j with
 | nil=>simp at h
 | cons s r ih =>
  cases j with
  | zero=>rfl
  | succ j =>
   rw [show (j+1) * 2=j * 2+1+1 by omega];simp only [sc,List.set_cons_succ,List.getElem_cons_succ];rw [ih j (by simpa using h)]
theorem zlk (xs:List Sl)(j:Nat)(z:Int)(h:j < xs.length):(sc xs).set (j * 2+1) (.int .i64 z)=sc (xs.set j (xs[j].1,z)):=by
 induction xs generalizing j with
 | nil=>simp at h
 | cons s r ih =>
  cases j with
  | zero=>rfl
  | succ j =>
   rw [show (j+1) * 2+1=j * 2+1+1+1 by omega];simp only [sc,List.set_cons_succ,List.getElem_cons_succ];rw [ih j (by simpa using h)]
def SOwns (w:World) (base:Nat) (e:TypeId) (v:Value) (xs:List Sl):Prop:=w.ownsRow base e 2 v xs.length (sc xs)
theorem SOwns.alloc {w:World}{base:Nat}{e:TypeId}{v:Value}{l:List Sl}(h:SOwns w base e v l)(o:Obj):SOwns (w.alloc o) base e v l:=World.ownsRow.alloc h o
theorem SOwns.drew {w:World}{base:Nat}{e:TypeId}{v:Value}{l:List Sl}(h:SOwns w base e v l):SOwns w.drew base e v l:=World.ownsRow.drew h
theorem SOwns.nil (w:World)(base:Nat)(e:TypeId):SOwns w base e (.slice none 0 0) []:=World.ownsRow_nil _ _ _ _
theorem SOwns.lit (w:World)(base:Nat)(e:TypeId)(cs:Array Value)(xs:List Sl)(hc:cs.toList=sc xs)(hb:base<=w.heap.size)(hm:xs.length<=maxLen):SOwns (w.alloc (.cells cs e)) base e (.slice (some ⟨w.heap.size,0,none⟩) xs.length xs.length) xs:=by
 have h1:cs.size=xs.length * 2:=by rw [← Array.length_toList,hc,zb5]
 have:=World.ownsRow_lit (base:=base) (e:=e) (size:=2) w cs xs.length hb hm h1;unfold SOwns
 rwa [hc] at this
theorem SOwns.lt {w:World}{base:Nat}{e:TypeId}{v:Value}{l:List Sl}(h:SOwns w base e v l):∀ k,v.ownBlock=some k->base<=k/\k < w.heap.size:=World.ownsRow.lt h
theorem SOwns.base_le {w:World}{base base':Nat}{e:TypeId}{v:Value}{l:List Sl}(h:SOwns w base e v l)(hb:base'<=base):SOwns w base' e v l:=by
 refine ⟨h.1,?_⟩;rcases h.2 with h1 | ⟨g,cap,cur,h1,h2,h3⟩
 ·exact .inl h1
 ·exact .inr ⟨g,cap,cur,h1,by omega,h3⟩
theorem SOwns.form {w:World}{base:Nat}{e:TypeId}{v:Value}{l:List Sl}(h:SOwns w base e v l):∃ a cap,v=.slice a l.length cap/\(a=none->l=[]):=by
 rcases h.2 with ⟨rfl,h0⟩ | ⟨g,cap,cur,rfl,_⟩
 ·exact ⟨none,0,by rw [h0],fun _=>List.length_eq_zero_iff.1 h0⟩
 ·exact ⟨_,_,rfl,fun h=>by cases h⟩
theorem SOwns.of_heap {w w':World}{base:Nat}{e:TypeId}{v:Value}{l:List Sl}(h:SOwns w base e v l)(hh:∀ k,v.ownBlock=some k->w'.heap[k]?=w.heap[k]?):SOwns w' base e v l:=by
 refine ⟨h.1,?_⟩;rcases h.2 with h1 | ⟨g,cap,cur,h1,h2,h3,h4⟩
 ·exact .inl h1
 ·exact .inr ⟨g,cap,cur,h1,h2,by rw [hh g (by rw [h1];rfl),h3],h4⟩
theorem SOwns.below {w w':World}{base B:Nat}{e:TypeId}{v:Value}{l:List Sl}(h:SOwns w base e v l)(hb:Below B w w')(hB:w.heap.size<=B):SOwns w' base e v l :=
 h.of_heap fun k hk=>hb.block k (by have:=(h.lt k hk).2;omega)
theorem SOwns.grown {w w':World}{base:Nat}{e:TypeId}{v:Value}{l:List Sl}{row:Option Nat}(h:SOwns w base e v l)(hg:w.grownBy w' row)(hn:∀ k,v.ownBlock=some k->row≠some k):SOwns w' base e v l :=
 h.of_heap fun k hk=>hg.block k (h.lt k hk).2 (fun e=>hn k hk e.symm)
theorem SOwns.setCell_other {w:World}{base:Nat}{e:TypeId}{v:Value}{l:List Sl}(h:SOwns w base e v l){b j:Nat}(hp:v.ownBlock≠some b)(x:Value):SOwns (w.setCell ⟨b,j,none⟩ x) base e v l :=
 h.of_heap fun k hk=>heap_setCell_other w ⟨b,j,none⟩ k x (fun e=>by simp at e;subst e;exact hp hk)
theorem SOwns.setCell_low {w:World}{base:Nat}{e:TypeId}{v:Value}{l:List Sl}(h:SOwns w base e v l){b j:Nat}(hp:b < base)(x:Value):SOwns (w.setCell ⟨b,j,none⟩ x) base e v l :=
 h.setCell_other (fun e=>by have:=(h.lt b e).1;omega) x
theorem SOwns.at {w:World}{base:Nat}{e:TypeId}{v:Value}{l:List Sl}(h:SOwns w base e v l)(k:Nat)(hk:k < l.length) :
  ∃ g cap,v=.slice (some ⟨g,0,none⟩) l.length cap/\w.cell? ⟨g,k * 2,none⟩=some (.string l[k].1)/\w.cell? ⟨g,k * 2+1,none⟩=some (.int .i64 l[k].2)/\(∀ j,w.frozen? ⟨g,j,none⟩=false)/\base<=g/\g < w.heap.size/\l.length<=cap:=by
 have hlt:=h.lt;rcases h.2 with ⟨h1,h0⟩ | ⟨g,cap,cur,rfl,h2,h3,h4,h5,h6,h7⟩
 ·omega
 ·have h':w.ownsRow base e 2 (.slice (some ⟨g,0,none⟩) l.length cap) l.length (sc l):=h;exact ⟨g,cap,rfl,(h'.cellAt _ (by omega)).trans (zg1 l k hk),(h'.cellAt _ (by omega)).trans (zkn l k hk),h'.frozenAt,h2,(hlt g rfl).2,h4⟩
theorem SOwns.set_name {w:World}{base g cap:Nat}{e:TypeId}{l:List Sl}(h:SOwns w base e (.slice (some ⟨g,0,none⟩) l.length cap) l)(k:Nat)(hk:k < l.length)(t:ByteArray) :
  SOwns (w.setCell ⟨g,k * 2,none⟩ (.string t)) base e (.slice (some ⟨g,0,none⟩) l.length cap) (l.set k (t,l[k].2))/\w.grownBy (w.setCell ⟨g,k * 2,none⟩ (.string t)) (some g):=by
 have:=World.ownsRow.stored h (k * 2) (.string t);refine ⟨?_,this.2⟩;unfold SOwns;rw [List.length_set,← zjq l k t hk];exact this.1
theorem SOwns.set_ino {w:World}{base g cap:Nat}{e:TypeId}{l:List Sl}(h:SOwns w base e (.slice (some ⟨g,0,none⟩) l.length cap) l)(k:Nat)(hk:k < l.length)(z:Int) :
  SOwns (w.setCell ⟨g,k * 2+1,none⟩ (.int .i64 z)) base e (.slice (some ⟨g,0,none⟩) l.length cap) (l.set k (l[k].1,z))/\w.grownBy (w.setCell ⟨g,k * 2+1,none⟩ (.int .i64 z)) (some g):=by
 have:=World.ownsRow.stored h (k * 2+1) (.int .i64 z);refine ⟨?_,this.2⟩;unfold SOwns;rw [List.length_set,← zlk l k z hk];exact this.1
theorem SOwns.set_both {w:World}{base g cap:Nat}{e:TypeId}{l:List Sl}(h:SOwns w base e (.slice (some ⟨g,0,none⟩) l.length cap) l)(k:Nat)(hk:k < l.length)(t:ByteArray)(z:Int) :
  SOwns ((w.setCell ⟨g,k * 2,none⟩ (.string t)).setCell ⟨g,k * 2+1,none⟩ (.int .i64 z)) base e (.slice (some ⟨g,0,none⟩) l.length cap) (l.set k (t,z))/\w.grownBy ((w.setCell ⟨g,k * 2,none⟩ (.string t)).setCell ⟨g,k * 2+1,none⟩ (.int .i64 z)) (some g):=by
 have h1:=h.set_name k hk t;have h2:SOwns (w.setCell ⟨g,k * 2,none⟩ (.string t)) base e (.slice (some ⟨g,0,none⟩) (l.set k (t,l[k].2)).length cap) (l.set k (t,l[k].2)):=by rw [List.length_set];exact h1.1
 have h3:=h2.set_ino k (by simpa using hk) z;simp only [List.length_set,List.getElem_set_self,List.set_set] at h3;exact ⟨h3.1,zg0 h1.2 h3.2⟩
def RSl (w:World) (v:Value) (xs:List Sl):Prop:=∃ a cap,v=.slice a xs.length cap/\xs.length<=cap/\∀ (j:Nat) (h:j < xs.length),∃ g off,a=some ⟨g,off,none⟩/\g < w.heap.size/\w.cell? ⟨g,off+j * 2,none⟩=some (.string xs[j].1)/\w.cell? ⟨g,off+j * 2+1,none⟩=some (.int .i64 xs[j].2)
theorem RSl.below {w w':World}{B:Nat}{v:Value}{xs:List Sl}(h:RSl w v xs)(hb:Below B w w')(hB:w.heap.size<=B):RSl w' v xs:=by
 obtain ⟨a,cap,rfl,hcap,h⟩:=h;refine ⟨a,cap,rfl,hcap,fun j hj=>?_⟩;obtain ⟨g,off,e,hg,hc,hd⟩:=h j hj;exact ⟨g,off,e,Nat.lt_of_lt_of_le hg hb.size,(hb.cell (p:=⟨g,off+j * 2,none⟩) (Nat.lt_of_lt_of_le hg hB)).trans hc,(hb.cell (p:=⟨g,off+j * 2+1,none⟩) (Nat.lt_of_lt_of_le hg hB)).trans hd⟩
theorem RSl.alloc {w:World}{v:Value}{xs:List Sl}(h:RSl w v xs)(o:Obj):RSl (w.alloc o) v xs:=h.below ((Below.refl _ w).alloc nR o) nR
theorem RSl.drew {w:World}{v:Value}{xs:List Sl}(h:RSl w v xs):RSl w.drew v xs:=h
theorem RSl.form {w:World}{v:Value}{xs:List Sl}(h:RSl w v xs):∃ a c,v=.slice a xs.length c:=by
 obtain ⟨a,c,h,_⟩:=h;exact ⟨a,c,h⟩
theorem SOwns.rsl {w:World}{base:Nat}{e:TypeId}{v:Value}{xs:List Sl}(h:SOwns w base e v xs):RSl w v xs:=by
 rcases h.2 with ⟨rfl,h0⟩ | ⟨g,cap,cur,rfl,_,_,hcap,_⟩
 ·have:xs=[]:=List.length_eq_zero_iff.1 h0;subst this;exact ⟨none,0,rfl,Nat.le_refl _,fun j hj=>absurd hj (Nat.not_lt_zero _)⟩
 ·refine ⟨_,cap,rfl,hcap,fun j hj=>?_⟩;obtain ⟨g',c',e1,k1,k2,_,_,k5,_⟩:=h.at j hj;simp only [Value.slice.injEq,Option.some.injEq,Addr.mk.injEq] at e1;obtain ⟨⟨rfl,-,-⟩,-,rfl⟩:=e1;exact ⟨g,0,rfl,k5,by rw [Nat.zero_add];exact k1,by rw [Nat.zero_add];exact k2⟩
end Kit
namespace Kit
def AtC (w:World) (b:Nat) (T:TypeId) (cs:Array Value):Prop:=w.heap[b]?=some (.cells cs T (0,0))
theorem AtC.lt {w:World}{b:Nat}{T:TypeId}{cs:Array Value}(h:AtC w b T cs):b < w.heap.size:=(Array.getElem?_eq_some_iff.1 h).1
theorem AtC.new (w:World)(T:TypeId)(cs:Array Value):AtC (w.alloc (.cells cs T)) w.heap.size T cs:=zc6 w _
theorem AtC.alloc {w:World}{b:Nat}{T:TypeId}{cs:Array Value}(h:AtC w b T cs)(o:Obj):AtC (w.alloc o) b T cs:=(Below.heap_alloc _ _ _ h.lt).trans h
theorem AtC.drew {w:World}{b:Nat}{T:TypeId}{cs:Array Value}(h:AtC w b T cs):AtC w.drew b T cs:=h
theorem AtC.below {w w':World}{b B:Nat}{T:TypeId}{cs:Array Value}(h:AtC w b T cs)(hb:Below B w w')(hB:b < B):AtC w' b T cs:=(hb.block b hB).trans h
theorem AtC.over {w w':World}{b:Nat}{T:TypeId}{cs:Array Value}(h:AtC w b T cs)(hb:Below w.heap.size w w'):AtC w' b T cs:=h.below hb h.lt
theorem AtC.grown {w w':World}{b:Nat}{T:TypeId}{cs:Array Value}{row:Option Nat}(h:AtC w b T cs)(hg:w.grownBy w' row)(hr:row≠some b):AtC w' b T cs:=(hg.block b h.lt (fun e=>hr e.symm)).trans h
theorem AtC.set {w:World}{b:Nat}{T:TypeId}{cs:Array Value}(h:AtC w b T cs)(k:Nat)(x:Value):AtC (w.setCell ⟨b,k,none⟩ x) b T (cs.setIfInBounds k x):=heap_setCell_same w b k cs T x h
theorem AtC.other {w:World}{b:Nat}{T:TypeId}{cs:Array Value}(h:AtC w b T cs){g k:Nat}(hn:b≠g)(x:Value):AtC (w.setCell ⟨g,k,none⟩ x) b T cs:=(heap_setCell_other w ⟨g,k,none⟩ b x hn).trans h
theorem AtC.cell {w:World}{b:Nat}{T:TypeId}{cs:Array Value}(h:AtC w b T cs)(k:Nat):w.cell? ⟨b,k,none⟩=cs[k]?:=cell_of_row w b k cs T _ h
theorem AtC.four {w:World}{b:Nat}{T:TypeId}{p q r s:Value}(h:AtC w b T #[p,q,r,s]):w.cell? ⟨b,0,none⟩=some p/\w.cell? ⟨b,1,none⟩=some q/\w.cell? ⟨b,2,none⟩=some r/\w.cell? ⟨b,3,none⟩=some s:=⟨h.cell 0,h.cell 1,h.cell 2,h.cell 3⟩
theorem AtC.frozen {w:World}{b:Nat}{T:TypeId}{cs:Array Value}(h:AtC w b T cs)(k:Nat):w.frozen? ⟨b,k,none⟩=false:=frozen_of_row w b k cs T h
theorem AtC.two {w:World}{b:Nat}{T:TypeId}{x y:Value}(h:AtC w b T #[x,y]):w.cell? ⟨b,0,none⟩=some x/\w.cell? ⟨b,1,none⟩=some y/\b < w.heap.size:=⟨h.cell 0,h.cell 1,h.lt⟩
theorem AtC.three {w:World}{b:Nat}{T:TypeId}{x y z:Value}(h:AtC w b T #[x,y,z]):w.cell? ⟨b,0,none⟩=some x/\w.cell? ⟨b,1,none⟩=some y/\w.cell? ⟨b,2,none⟩=some z/\b < w.heap.size:=⟨h.cell 0,h.cell 1,h.cell 2,h.lt⟩
theorem AtC.frz {w:World}{b:Nat}{T:TypeId}{cs:Array Value}(h:AtC w b T cs):w.frozen? ⟨b,0,none⟩=false/\w.frozen? ⟨b,1,none⟩=false/\w.frozen? ⟨b,2,none⟩=false:=⟨h.frozen 0,h.frozen 1,h.frozen 2⟩
end Kit
namespace Kit
def ic (l:List Int):List Value:=l.map fun z=>Value.int .i64 z
theorem zaf (l:List Int):(ic l).length=l.length:=by simp [ic]
def RInts (w:World) (v:Value) (xs:List Int):Prop:=∃ a cap,v=.slice a xs.length cap/\∀ (j:Nat) (h:j < xs.length),∃ g off,a=some ⟨g,off,none⟩/\g < w.heap.size/\w.cell? ⟨g,off+j,none⟩=some (.int .i64 xs[j])
theorem RInts.below {w w':World}{B:Nat}{v:Value}{xs:List Int}(h:RInts w v xs)(hb:Below B w w')(hB:w.heap.size<=B):RInts w' v xs:=by
 obtain ⟨a,cap,rfl,h⟩:=h;refine ⟨a,cap,rfl,fun j hj=>?_⟩;obtain ⟨g,off,e,hg,hc⟩:=h j hj;exact ⟨g,off,e,Nat.lt_of_lt_of_le hg hb.size,(hb.cell (p:=⟨g,off+j,none⟩) (Nat.lt_of_lt_of_le hg hB)).trans hc⟩
theorem ROwns.rints {w:World}{base:Nat}{e:TypeId}{v:Value}{xs:List Int}(h:ROwns w base e v (ic xs)):RInts w v xs:=by
 obtain ⟨a,cap,rfl,_⟩:=h.form;refine ⟨a,cap,by rw [zaf],fun j hj=>?_⟩;obtain ⟨g,c,e1,k1,_,_,k4,_⟩:=h.at j (by rw [zaf];exact hj);simp only [Value.slice.injEq] at e1;refine ⟨g,0,e1.1,k4,?_⟩;rw [Nat.zero_add,k1];simp [ic,hj]
end Kit
theorem eqI_same (va vb:Value)(l:List Int)(w:World)(ha:RInts w va l)(hb:RInts w vb l)(hl:l.length<=1000000000) :
  Calls Tryz.prog 114 #[va,vb] w fun e w'=>e=.returned (.bool true)/\Below w.heap.size w w':=by
 obtain ⟨a1,c1,rfl,ha⟩:=ha;obtain ⟨a2,c2,rfl,hb⟩:=hb;have HA:=hide ha;have HB:=hide hb;clear ha hb;go_enter Tryz.func114,Tryz.ntmps114
 go_wp2;go_loopw [5] (fun i wr=>∃ j:Nat,j<=l.length/\i=.int .i64 j/\∃ q,wr=w.drewN q) (fun i _=>l.length - (intOf i).toNat)
 case atStart=>exact ⟨0,Nat.zero_le _,rfl,0,rfl⟩
 case round =>
  obtain ⟨j,hj,rfl,q,rfl⟩:=hrel;by_cases hlt:j < l.length
  ·obtain ⟨g1,o1,rfl,_,k1⟩:=HA.out j hlt;obtain ⟨g2,o2,rfl,_,k2⟩:=HB.out j hlt;obtain ⟨t,ht⟩:∃ t,l[j]=t:=⟨_,rfl⟩
   rw [ht] at k1 k2;clear ht;have j0:(0:Int)<=(j:Int):=by omega
   have j1:(j:Int) < (l.length:Int):=by omega
   go_wp2;go_quiet (fail)
   go_wp2;go_roundw
   case rel=>exact ⟨j+1,by omega,by go_num,_,rfl⟩
   case measure=>simp [intOf];omega
  ·go_wp2;go_ret;exact ⟨rfl,below_drewN bR _⟩
namespace Kit
theorem ROwns.form2 {w:World}{base:Nat}{e:TypeId}{v:Value}{p q:Int}(h:ROwns w base e v (ic [p,q])):∃ a c,v=.slice a 2 c:=by
 obtain ⟨a,c,h1,_⟩:=h.form;exact ⟨a,c,h1⟩
theorem zic (w:World)(o o2:Obj):((w.alloc o).alloc o2).heap[w.heap.size]?=some o:=(Below.heap_alloc _ _ _ (by simp)).trans (zc6 w o)
end Kit
theorem Tryz.u54:Tryz.prog.underlying 54=some (.slice 3):=by kernel_rfl
theorem Tryz.i3:(Tryz.prog.info? 3).map (fun i=>(i.zero,i.size,i.bytes))=some (some (.int .i64 0),1,8):=by kernel_rfl
theorem make22 (w:World):(Instr.makeSlice 54 (.int .i64 2) (.int .i64 2)).run Tryz.prog w=.ok (.slice (some ⟨w.heap.size,0,none⟩) 2 2) (w.alloc (.cells #[.int .i64 0,.int .i64 0] 3)):=by
 obtain ⟨i0,hi,hz0,hz1,hz2⟩:=info_parts Tryz.i3;rw [run_make w 54 3 i0 (.int .i64 0) Tryz.u54 hi hz0 .i64 .i64 2 2 (by decide) (by decide) (by rw [hz2];decide) (by decide),hz1];have e1:∀ (z:Value) n (l:List Value),List.replicate n z=l->madeCells #[z] n=l.toArray:=fun z n l h=>Array.toList_inj.1 (by rw [toList_madeCells_one,h]);rw [show Value.cells _=#[_] from rfl,e1 _ _ _ rfl];rfl
theorem make02 (w:World):(Instr.makeSlice 54 (.int .i64 0) (.int .i64 2)).run Tryz.prog w=.ok (.slice (some ⟨w.heap.size,0,none⟩) 0 2) (w.alloc (.cells #[.int .i64 0,.int .i64 0] 3)):=by
 obtain ⟨i0,hi,hz0,hz1,hz2⟩:=info_parts Tryz.i3;rw [run_make w 54 3 i0 (.int .i64 0) Tryz.u54 hi hz0 .i64 .i64 0 2 (by decide) (by decide) (by rw [hz2];decide) (by decide),hz1];have e1:∀ (z:Value) n (l:List Value),List.replicate n z=l->madeCells #[z] n=l.toArray:=fun z n l h=>Array.toList_inj.1 (by rw [toList_madeCells_one,h]);rw [show Value.cells _=#[_] from rfl,e1 _ _ _ rfl];rfl
theorem Tryz.u161:Tryz.prog.underlying 161=some (.array 2 3):=by kernel_rfl
theorem arr0 (p q:Int)(w:World):(Instr.index 161 (.agg #[.int .i64 p,.int .i64 q]) (.int .i64 0)).run Tryz.prog w=.ok (.int .i64 p) w:=by
 obtain ⟨i0,hi,hz0,hz1,hz2⟩:=info_parts Tryz.i3;simp [Instr.index,run_underlying Tryz.u161,asIntOf,go_sem,sizeOf,typeInfo,hi,hz1,part]
theorem arr1 (p q:Int)(w:World):(Instr.index 161 (.agg #[.int .i64 p,.int .i64 q]) (.int .i64 1)).run Tryz.prog w=.ok (.int .i64 q) w:=by
 obtain ⟨i0,hi,hz0,hz1,hz2⟩:=info_parts Tryz.i3;simp [Instr.index,run_underlying Tryz.u161,asIntOf,go_sem,sizeOf,typeInfo,hi,hz1,part]
def zau (k:Int):Int:=if k=0 then 0 else 1
theorem zek (k:Int)(w:World) :
  Calls Tryz.prog 72 #[.int .i64 k] w fun e w'=>∃ v,e=.returned (.agg #[.int .i64 k,.int .i64 (zau k),v])/\ROwns w' w.heap.size 3 v (ic [0,0])/\Below w.heap.size w w':=by
 have mk:=make22;have own:∀ o1 o2,ROwns (((w.alloc o1).alloc (.cells #[.int .i64 0,.int .i64 0] 3)).alloc o2) w.heap.size 3 (.slice (some ⟨w.heap.size+1,0,none⟩) 2 2) (ic [0,0]):=fun o1 o2=>by
  have:=(ROwns.lit (w.alloc o1) w.heap.size 3 #[.int .i64 0,.int .i64 0] (by simp) (by simp [maxLen])).alloc o2;simpa [ic] using this
 have bel:∀ o1 o2 o3,Below w.heap.size w (((w.alloc o1).alloc o2).alloc o3):=fun o1 o2 o3=>(((Below.refl _ w).alloc nR _).alloc (by simp) _).alloc (by simp;omega) _;have HO:=hide own;have HB:=hide bel;clear own bel;by_cases h:k=0
 ·subst h;go_enter Tryz.func72,Tryz.ntmps72
  go_wp2;refine bodyPost_ret (v:=.agg #[.int .i64 0,.int .i64 0,.slice (some ⟨w.heap.size+1,0,none⟩) 2 2]) (by simp [results,go_sem]) rfl ⟨_,rfl,HO.out _ _,HB.out _ _ _⟩
 ·have h0:(k == 0)=false:=by simpa using h
  have e1:zau k=1:=by simp [zau,h]
  rw [e1];clear e1;go_enter Tryz.func72,Tryz.ntmps72
  go_wp2;refine bodyPost_ret (v:=.agg #[.int .i64 k,.int .i64 1,.slice (some ⟨w.heap.size+1,0,none⟩) 2 2]) (by simp [results,go_sem]) rfl ⟨_,rfl,HO.out _ _,HB.out _ _ _⟩
theorem zmo (k l p q:Int)(w:World) :
  Calls Tryz.prog 154 #[.agg #[.int .i64 k,.int .i64 l,.int .i64 p,.int .i64 q]] w fun e w'=>∃ v,e=.returned (.agg #[.int .i64 k,.int .i64 l,v])/\ROwns w' w.heap.size 3 v (ic [p,q])/\Below w.heap.size w w':=by
 have mk:=make02;have a0:=arr0 p q;have a1:=arr1 p q;go_enter Tryz.func154,Tryz.ntmps154
 go_wp2
 go_rounds 3
 refine bodyPost_ret (v:=.agg #[.int .i64 k,.int .i64 l,.slice (some ⟨w.heap.size+1+1,0,none⟩) 2 2]) (by simp [results,go_sem]) rfl ⟨_,rfl,?_,by go_grown⟩;have:=((ROwns.lit ((w.alloc (Obj.cells #[.int .i64 k,.int .i64 l,.int .i64 p,.int .i64 q] 163)).alloc (Obj.cells #[.int .i64 k,.int .i64 l,.slice (some ⟨w.heap.size+1+1,0,none⟩) 2 2] 63)) w.heap.size 3 #[.int .i64 p,.int .i64 q] (by simp;omega) (by simp [maxLen])).alloc (Obj.cells #[.int .i64 p] 3)).alloc (Obj.cells #[.int .i64 q] 3);simpa [ic] using this
namespace Kit
theorem RInts.alloc {w:World}{v:Value}{xs:List Int}(h:RInts w v xs)(o:Obj):RInts (w.alloc o) v xs:=h.below ((Below.refl _ w).alloc nR o) nR
theorem RInts.form {w:World}{v:Value}{xs:List Int}(h:RInts w v xs):∃ a c,v=.slice a xs.length c:=by
 obtain ⟨a,c,h,_⟩:=h;exact ⟨a,c,h⟩
def AtI (w:World) (b:Nat) (k l:Int) (v:Value):Prop:=w.heap[b]?=some (.cells #[.int .i64 k,.int .i64 l,v] 63 (0,0))
theorem AtI.lt {w:World}{b:Nat}{k l:Int}{v:Value}(h:AtI w b k l v):b < w.heap.size:=(Array.getElem?_eq_some_iff.1 h).1
theorem AtI.new (w:World)(k l:Int)(v:Value):AtI (w.alloc (.cells #[.int .i64 k,.int .i64 l,v] 63)) w.heap.size k l v:=zc6 w _
theorem AtI.alloc {w:World}{b:Nat}{k l:Int}{v:Value}(h:AtI w b k l v)(o:Obj):AtI (w.alloc o) b k l v:=(Below.heap_alloc _ _ _ h.lt).trans h
theorem AtI.below {w w':World}{b B:Nat}{k l:Int}{v:Value}(h:AtI w b k l v)(hb:Below B w w')(hB:b < B):AtI w' b k l v:=(hb.block b hB).trans h
theorem AtI.grown {w w':World}{b:Nat}{k l:Int}{v:Value}{row:Option Nat}(h:AtI w b k l v)(hg:w.grownBy w' row)(hr:row≠some b):AtI w' b k l v:=(hg.block b h.lt (fun e=>hr e.symm)).trans h
theorem AtI.cells {w:World}{b:Nat}{k l:Int}{v:Value}(h:AtI w b k l v) :
  w.cell? ⟨b,0,none⟩=some (.int .i64 k)/\w.cell? ⟨b,1,none⟩=some (.int .i64 l)/\w.cell? ⟨b,2,none⟩=some v/\b < w.heap.size:=by
 have h':w.heap[b]?=some (.cells #[.int .i64 k,.int .i64 l,v] 63 (0,0)):=h;exact ⟨by simp [World.cell?,h'],by simp [World.cell?,h'],by simp [World.cell?,h'],h.lt⟩
end Kit
theorem zmp (k l:Int)(va vb:Value)(xs:List Int)(w:World)(ha:RInts w va xs)(hb:RInts w vb xs)(hl:xs.length<=1000000000) :
  Calls Tryz.prog 67 #[.agg #[.int .i64 k,.int .i64 l,va],.agg #[.int .i64 k,.int .i64 l,vb]] w fun e w'=>e=.returned (.bool true)/\Below w.heap.size w w':=by
 obtain ⟨a1,c1,rfl⟩:=ha.form;obtain ⟨a2,c2,rfl⟩:=hb.form;have HA:=hide ha;have HB:=hide hb;clear ha hb;go_enter Tryz.func67,Tryz.ntmps67
 go_wp2_with fail
 refine (eqI_same _ _ xs _ ((HA.out.alloc _).alloc _) ((HB.out.alloc _).alloc _) hl).mono ?_;rintro e w1 ⟨rfl,B1⟩;have HB1:=hide B1;clear B1;go_wp2;go_ret;exact ⟨rfl,((((Below.refl _ w).alloc nR _).alloc (by simp) _).trans (HB1.out.mono (by simp;omega)))⟩
namespace Kit
def fc (l:List Bool):List Value:=l.map fun z=>Value.bool z
theorem za7 (l:List Bool):(fc l).length=l.length:=by simp [fc]
def RFl (w:World) (v:Value) (xs:List Bool):Prop:=∃ a cap,v=.slice a xs.length cap/\∀ (j:Nat) (h:j < xs.length),∃ g off,a=some ⟨g,off,none⟩/\g < w.heap.size/\w.cell? ⟨g,off+j,none⟩=some (.bool xs[j])
theorem RFl.below {w w':World}{B:Nat}{v:Value}{xs:List Bool}(h:RFl w v xs)(hb:Below B w w')(hB:w.heap.size<=B):RFl w' v xs:=by
 obtain ⟨a,cap,rfl,h⟩:=h;refine ⟨a,cap,rfl,fun j hj=>?_⟩;obtain ⟨g,off,e,hg,hc⟩:=h j hj;exact ⟨g,off,e,Nat.lt_of_lt_of_le hg hb.size,(hb.cell (p:=⟨g,off+j,none⟩) (Nat.lt_of_lt_of_le hg hB)).trans hc⟩
theorem ROwns.rfl {w:World}{base:Nat}{e:TypeId}{v:Value}{xs:List Bool}(h:ROwns w base e v (fc xs)):RFl w v xs:=by
 obtain ⟨a,cap,rfl,_⟩:=h.form;refine ⟨a,cap,by rw [za7],fun j hj=>?_⟩;obtain ⟨g,c,e1,k1,_,_,k4,_⟩:=h.at j (by rw [za7];exact hj);simp only [Value.slice.injEq] at e1;refine ⟨g,0,e1.1,k4,?_⟩;rw [Nat.zero_add,k1];simp [fc,hj]
theorem RFl.alloc {w:World}{v:Value}{xs:List Bool}(h:RFl w v xs)(o:Obj):RFl (w.alloc o) v xs:=h.below ((Below.refl _ w).alloc nR o) nR
theorem RFl.drew {w:World}{v:Value}{xs:List Bool}(h:RFl w v xs):RFl w.drew v xs:=h.below (Below.refl w.heap.size w).drew nR
theorem RFl.form {w:World}{v:Value}{xs:List Bool}(h:RFl w v xs):∃ a c,v=.slice a xs.length c:=by
 obtain ⟨a,c,h,_⟩:=h;exact ⟨a,c,h⟩
end Kit
theorem zid (va vb:Value)(l:List Bool)(w:World)(ha:RFl w va l)(hb:RFl w vb l)(hl:l.length<=1000000000) :
  Calls Tryz.prog 66 #[va,vb] w fun e w'=>e=.returned (.bool true)/\Below w.heap.size w w':=by
 obtain ⟨a1,c1,rfl,ha⟩:=ha;obtain ⟨a2,c2,rfl,hb⟩:=hb;have HA:=hide ha;have HB:=hide hb;clear ha hb;go_enter Tryz.func66,Tryz.ntmps66
 go_wp2;go_loopw [5] (fun i wr=>∃ j:Nat,j<=l.length/\i=.int .i64 j/\∃ q,wr=w.drewN q) (fun i _=>l.length - (intOf i).toNat)
 case atStart=>exact ⟨0,Nat.zero_le _,rfl,0,rfl⟩
 case round =>
  obtain ⟨j,hj,rfl,q,rfl⟩:=hrel;by_cases hlt:j < l.length
  ·obtain ⟨g1,o1,rfl,_,k1⟩:=HA.out j hlt;obtain ⟨g2,o2,rfl,_,k2⟩:=HB.out j hlt;obtain ⟨t,ht⟩:∃ t,l[j]=t:=⟨_,rfl⟩
   rw [ht] at k1 k2;clear ht;have j0:(0:Int)<=(j:Int):=by omega
   have j1:(j:Int) < (l.length:Int):=by omega
   go_wp2;go_quiet (fail)
   go_wp2;go_roundw
   case rel=>exact ⟨j+1,by omega,by go_num,_,rfl⟩
   case measure=>simp [intOf];omega
  ·go_wp2;go_ret;exact ⟨rfl,below_drewN bR _⟩
namespace Kit
end Kit
namespace Kit
def zaw (j:Nat) (xs:List Bool):List Bool:=xs.take j ++ List.replicate (xs.length - j) false
theorem zdf (j:Nat)(xs:List Bool)(h:j<=xs.length):(zaw j xs).length=xs.length:=by simp [zaw];omega
theorem zie (xs:List Bool):zaw 0 xs=List.replicate xs.length false:=by simp [zaw]
theorem zjr (xs:List Bool):zaw xs.length xs=xs:=by simp [zaw]
theorem zif (j:Nat)(xs:List Bool)(h:j < xs.length):(fc (zaw j xs))[j]?=some (.bool false):=by
 unfold fc zaw;have e:(List.map (fun z=>Value.bool z) (xs.take j)).length=j:=by simp;omega
 rw [List.map_append,List.getElem?_append_right (by omega),e,Nat.sub_self,List.map_replicate,List.getElem?_replicate,if_pos (by omega)]
theorem zjs (j:Nat)(xs:List Bool)(h:j < xs.length):(fc (zaw j xs)).set j (.bool xs[j])=fc (zaw (j+1) xs):=by
 have e:(zaw j xs).set j xs[j]=zaw (j+1) xs:=by
  unfold zaw;rw [List.set_append_right _ _ (by simp;omega),List.take_succ_eq_append_getElem h,List.length_take,Nat.min_eq_left (by omega),Nat.sub_self,show xs.length - j=(xs.length - (j+1))+1 by omega,List.replicate_succ,List.set_cons_zero,List.append_assoc];rfl
 rw [← e];simp [fc,List.map_set]
theorem zll (w:World)(xs:List Bool)(h:xs.length<=8388608)(e:TypeId):ROwns (w.alloc (.cells (madeCells #[.bool false] xs.length) e)) w.heap.size e (.slice (some ⟨w.heap.size,0,none⟩) xs.length xs.length) (fc (zaw 0 xs)):=by
 have e1:(madeCells #[.bool false] xs.length).toList=fc (zaw 0 xs):=by rw [toList_madeCells_one,zie];simp [fc]
 have e2:(madeCells #[.bool false] xs.length).size=xs.length:=by rw [← Array.length_toList,e1,za7,zdf 0 xs (Nat.zero_le _)]
 have:=ROwns.lit w w.heap.size e (madeCells #[.bool false] xs.length) nR (by rw [e2];unfold maxLen;omega)
 rwa [e1,e2] at this
theorem zjt {wr:World}{base g n:Nat}{e:TypeId}{j:Nat}{xs:List Bool}(hn:xs.length=n)(hj:j < n)(h:ROwns wr base e (.slice (some ⟨g,0,none⟩) n n) (fc (zaw j xs))) :
  ROwns (wr.setCell ⟨g,j,none⟩ (.bool (xs[j]'(by omega)))) base e (.slice (some ⟨g,0,none⟩) n n) (fc (zaw (j+1) xs))/\wr.cell? ⟨g,j,none⟩=some (.bool false)/\wr.frozen? ⟨g,j,none⟩=false/\g < wr.heap.size:=by
 have hml:(fc (zaw j xs)).length=n:=by rw [za7,zdf j xs (by omega),hn]
 obtain ⟨g2,c2,e1,q2,q3,-,q5,-⟩:=h.at j (by omega);rw [zif j xs (by omega)] at q2;simp only [Value.slice.injEq,Option.some.injEq,Addr.mk.injEq] at e1;obtain ⟨⟨rfl,-,-⟩,-,rfl⟩:=e1;have O1:ROwns wr base e (.slice (some ⟨g,0,none⟩) (fc (zaw j xs)).length n) (fc (zaw j xs)):=by rw [hml];exact h
 have O2:=O1.stored j (.bool (xs[j]'(by omega)));rw [zjs j xs (by omega),hml] at O2;exact ⟨O2.1,q2,q3,q5⟩
end Kit
theorem Tryz.u22:Tryz.prog.underlying 22=some (.slice 4):=by kernel_rfl
theorem Tryz.i4:(Tryz.prog.info? 4).map (fun i=>(i.zero,i.size,i.bytes))=some (some (.bool false),1,1):=by kernel_rfl
theorem zju (n:Nat)(h:n<=8388608)(w:World):(Instr.makeSlice 22 (.int .i64 (n:Int)) (.int .i64 (n:Int))).run Tryz.prog w=.ok (.slice (some ⟨w.heap.size,0,none⟩) n n) (w.alloc (.cells (madeCells #[.bool false] n) 4)) :=
 run_make_row' 22 4 (.bool false) 1 Tryz.u22 Tryz.i4 rfl .i64 .i64 n (by omega) (by omega) w
theorem zko (v:Value)(xs:List Bool)(w:World)(hv:RFl w v xs)(hl:xs.length<=1048576) :
  Calls Tryz.prog 45 #[v] w fun e w'=>∃ u,e=.returned u/\ROwns w' w.heap.size 4 u (fc xs)/\Below w.heap.size w w':=by
 obtain ⟨a,c,rfl,hc⟩:=hv;have HC:=hide hc;clear hc;have mk:=zju xs.length (by omega);go_enter Tryz.func45,Tryz.ntmps45
 go_wp2;go_loopw [4] (fun i wr=>∃ j:Nat,j<=xs.length/\i=.int .i64 j/\ROwns wr w.heap.size 4 (.slice (some ⟨w.heap.size,0,none⟩) xs.length xs.length) (fc (zaw j xs))/\Below w.heap.size w wr) (fun i _=>xs.length - (intOf i).toNat)
 case atStart=>exact ⟨0,Nat.zero_le _,rfl,zll w xs (by omega) 4,(Below.refl _ w).alloc nR _⟩
 case round =>
  obtain ⟨j,hj,rfl,hown,hb⟩:=hrel;by_cases hlt:j < xs.length
  ·obtain ⟨g,off,rfl,hg,k1⟩:=HC.out j hlt;have q1:wr.cell? ⟨g,off+j,none⟩=some (.bool xs[j]):=(hb.cell (p:=⟨g,off+j,none⟩) hg).trans k1;obtain ⟨O2,q2,q3,q4⟩:=zjt rfl hlt hown;have HO:=hide (And.intro O2 (hb.setCell (p:=⟨w.heap.size,j,none⟩) nR (.bool xs[j])));obtain ⟨t,ht⟩:∃ t,xs[j]=t:=⟨_,rfl⟩
   rw [ht] at q1 HO;have hne:¬ g=w.heap.size:=by omega
   have j0:(0:Int)<=(j:Int):=by omega
   have j1:(j:Int) < (xs.length:Int):=by omega
   clear hown hb O2 ht k1 mk;go_wp2;go_roundw
   case rel=>exact ⟨j+1,by omega,by go_num,HO.out.1,HO.out.2⟩
   case measure=>simp [intOf];omega
  ·have hjl:j=xs.length:=by omega
   have HR:=hide (And.intro hown hb);have HJ:=hide hjl;clear hown hb hjl mk;go_wp2;go_ret;exact ⟨_,rfl,by have:=HR.out.1;rwa [HJ.out,zjr] at this,HR.out.2⟩
namespace Kit
def AtP (T:TypeId) (w:World) (b:Nat) (u v:Value):Prop:=w.heap[b]?=some (.cells #[u,v] T (0,0))
theorem AtP.lt {T:TypeId}{w:World}{b:Nat}{u v:Value}(h:AtP T w b u v):b < w.heap.size:=(Array.getElem?_eq_some_iff.1 h).1
theorem AtP.new (T:TypeId)(w:World)(u v:Value):AtP T (w.alloc (.cells #[u,v] T)) w.heap.size u v:=zc6 w _
theorem AtP.alloc {T:TypeId}{w:World}{b:Nat}{u v:Value}(h:AtP T w b u v)(o:Obj):AtP T (w.alloc o) b u v:=(Below.heap_alloc _ _ _ h.lt).trans h
theorem AtP.below {T:TypeId}{w w':World}{b B:Nat}{u v:Value}(h:AtP T w b u v)(hb:Below B w w')(hB:b < B):AtP T w' b u v:=(hb.block b hB).trans h
theorem AtP.grown {T:TypeId}{w w':World}{b:Nat}{u v:Value}{row:Option Nat}(h:AtP T w b u v)(hg:w.grownBy w' row)(hr:row≠some b):AtP T w' b u v:=(hg.block b h.lt (fun e=>hr e.symm)).trans h
theorem AtP.cells {T:TypeId}{w:World}{b:Nat}{u v:Value}(h:AtP T w b u v):w.cell? ⟨b,0,none⟩=some u/\w.cell? ⟨b,1,none⟩=some v:=by
 have h':w.heap[b]?=some (.cells #[u,v] T (0,0)):=h;exact ⟨by simp [World.cell?,h'],by simp [World.cell?,h']⟩
theorem AtP.frozen {T:TypeId}{w:World}{b:Nat}{u v:Value}(h:AtP T w b u v):w.frozen? ⟨b,0,none⟩=false/\w.frozen? ⟨b,1,none⟩=false:=by
 have h':w.heap[b]?=some (.cells #[u,v] T (0,0)):=h;exact ⟨by simp [World.frozen?,h'],by simp [World.frozen?,h']⟩
theorem AtP.set_other {T:TypeId}{w:World}{b:Nat}{u v:Value}(h:AtP T w b u v){B j:Nat}(hne:b≠B)(x:Value):AtP T (w.setCell ⟨B,j,none⟩ x) b u v:=(heap_setCell_other w ⟨B,j,none⟩ b x hne).trans h
theorem AtP.set0 {T:TypeId}{w:World}{b:Nat}{u v:Value}(h:AtP T w b u v)(x:Value):AtP T (w.setCell ⟨b,0,none⟩ x) b x v:=heap_setCell_same w b 0 _ T x h
theorem AtP.set1 {T:TypeId}{w:World}{b:Nat}{u v:Value}(h:AtP T w b u v)(x:Value):AtP T (w.setCell ⟨b,1,none⟩ x) b u x:=heap_setCell_same w b 1 _ T x h
theorem AtP.drew {T:TypeId}{w:World}{b:Nat}{u v:Value}(h:AtP T w b u v):AtP T w.drew b u v:=h
structure Two (w:World) (base:Nat) (u v:Value) (xs ys:List Bool):Prop where
 a:ROwns w base 4 u (fc xs)
 b:ROwns w base 4 v (fc ys)
 ne:∀ k,u.ownBlock=some k->v.ownBlock≠some k
namespace Two
variable {w w' : World} {base : Nat} {u v : Value} {xs ys : List Bool}
theorem alloc (h:Two w base u v xs ys)(o:Obj):Two (w.alloc o) base u v xs ys:=⟨h.a.alloc o,h.b.alloc o,h.ne⟩
theorem drew (h:Two w base u v xs ys):Two w.drew base u v xs ys:=⟨h.a.drew,h.b.drew,h.ne⟩
theorem below {B:Nat}(h:Two w base u v xs ys)(hb:Below B w w')(hB:w.heap.size<=B):Two w' base u v xs ys:=⟨h.a.below hb hB,h.b.below hb hB,h.ne⟩
theorem base_le {base':Nat}(h:Two w base u v xs ys)(hb:base'<=base):Two w base' u v xs ys:=⟨h.a.base_le hb,h.b.base_le hb,h.ne⟩
theorem set_other (h:Two w base u v xs ys){b j:Nat}(hp:b < base)(x:Value):Two (w.setCell ⟨b,j,none⟩ x) base u v xs ys:=⟨h.a.setCell_other hp x,h.b.setCell_other hp x,h.ne⟩
theorem form (h:Two w base u v xs ys):∃ a1 c1 a2 c2,u=.slice a1 xs.length c1/\v=.slice a2 ys.length c2:=by
 obtain ⟨a1,c1,e1⟩:=h.a.rfl.form;obtain ⟨a2,c2,e2⟩:=h.b.rfl.form;exact ⟨a1,c1,a2,c2,e1,e2⟩
theorem nil (w:World)(base:Nat):Two w base (.slice none 0 0) (.slice none 0 0) [] []:=⟨ROwns.nil _ _ _,ROwns.nil _ _ _,fun k h=>by cases h⟩
end Two
structure G2 (w w':World) (r1 r2:Option Nat):Prop where
 os:w'.os=w.os
 tape:w'.tape=w.tape
 output:w'.output=w.output
 size:w.heap.size<=w'.heap.size
 block:∀ k,k < w.heap.size->r1≠some k->r2≠some k->w'.heap[k]?=w.heap[k]?
theorem AtP.g2 {T:TypeId}{w w':World}{b:Nat}{u v:Value}{r1 r2:Option Nat}(h:AtP T w b u v)(hg:G2 w w' r1 r2)(h1:r1≠some b)(h2:r2≠some b):AtP T w' b u v:=(hg.block b h.lt h1 h2).trans h
theorem Two.g2 {w w':World}{base:Nat}{u v:Value}{xs ys:List Bool}{r1 r2:Option Nat}(h:Two w base u v xs ys)(hg:G2 w w' r1 r2)(h1:∀ k,(u.ownBlock=some k\/v.ownBlock=some k)->r1≠some k/\r2≠some k):Two w' base u v xs ys :=
 ⟨h.a.of_heap fun k hk=>hg.block k (h.a.lt k hk).2 (h1 k (.inl hk)).1 (h1 k (.inl hk)).2,h.b.of_heap fun k hk=>hg.block k (h.b.lt k hk).2 (h1 k (.inr hk)).1 (h1 k (.inr hk)).2,h.ne⟩
end Kit
theorem zmq (ua ub va vb:Value)(xs ys:List Bool)(w:World)(h1:RFl w ua xs)(h2:RFl w ub ys)(h3:RFl w va xs)(h4:RFl w vb ys)(hx:xs.length<=1000000000)(hy:ys.length<=1000000000) :
  Calls Tryz.prog 25 #[.agg #[ua,ub],.agg #[va,vb]] w fun e w'=>e=.returned (.bool true)/\Below w.heap.size w w':=by
 obtain ⟨a1,c1,rfl⟩:=h1.form;obtain ⟨a2,c2,rfl⟩:=h2.form;obtain ⟨a3,c3,rfl⟩:=h3.form;obtain ⟨a4,c4,rfl⟩:=h4.form;have H1:=hide h1;have H2:=hide h2;have H3:=hide h3;have H4:=hide h4;clear h1 h2 h3 h4;go_enter Tryz.func25,Tryz.ntmps25
 go_wp2_with fail
 refine (zid _ _ xs _ ((H1.out.alloc _).alloc _) ((H3.out.alloc _).alloc _) hx).mono ?_;rintro e w1 ⟨rfl,B1⟩;have X1:AtP 31 w1 w.heap.size (.slice a1 xs.length c1) (.slice a2 ys.length c2):=((AtP.new 31 w _ _).alloc _).below B1 (by simp;omega);have X2:AtP 31 w1 (w.heap.size+1) (.slice a3 xs.length c3) (.slice a4 ys.length c4):=by
  have:=(AtP.new 31 (w.alloc (.cells #[.slice a1 xs.length c1,.slice a2 ys.length c2] 31)) (.slice a3 xs.length c3) (.slice a4 ys.length c4)).below B1 (by simp)
  rwa [World.size_alloc] at this
 have b1:Below w.heap.size w w1:=((((Below.refl _ w).alloc nR _).alloc (by simp) _).trans (B1.mono (by simp;omega)))
 have n2:RFl w1 (.slice a2 ys.length c2) ys:=((H2.out.alloc _).alloc _).below B1 nR;have n4:RFl w1 (.slice a4 ys.length c4) ys:=((H4.out.alloc _).alloc _).below B1 nR;obtain ⟨p0,p1⟩:=X1.cells;obtain ⟨q0,q1⟩:=X2.cells;have m1:=X1.lt;have m2:=X2.lt;have HB:=hide b1;have HN:=hide (And.intro n2 n4);clear B1 X1 X2 b1 n2 n4 H1 H2 H3 H4;go_wp2_with fail
 refine (zid _ _ ys w1 HN.out.1 HN.out.2 hy).mono ?_;rintro e w2 ⟨rfl,B2⟩;have HB2:=hide (HB.out.trans (B2.mono HB.out.size));clear B2 HB HN;go_wp2;go_ret;exact ⟨rfl,HB2.out⟩
namespace Kit
abbrev V3:=Value×Value×Value
def f3:List V3->List Value
 | []=>[]
 | t :: r=>t.1 :: t.2.1 :: t.2.2 :: f3 r
theorem zcw (ts:List V3):(f3 ts).length=ts.length * 3:=by
 induction ts with
 | nil=>rfl
 | cons s r ih=>simp [f3,ih];omega
theorem zmr (a b:List V3):f3 (a ++ b)=f3 a ++ f3 b:=by
 induction a with
 | nil=>rfl
 | cons s r ih=>simp [f3,ih]
theorem f3_at (ts:List V3)(j:Nat)(h:j < ts.length):(f3 ts)[j * 3]?=some ts[j].1/\(f3 ts)[j * 3+1]?=some ts[j].2.1/\(f3 ts)[j * 3+2]?=some ts[j].2.2:=by
 induction ts generalizing j with
 | nil=>simp at h
 | cons s r ih =>
  cases j with
  | zero=>exact ⟨rfl,rfl,rfl⟩
  | succ j =>
   rw [show (j+1) * 3=j * 3+1+1+1 by omega,show j * 3+1+1+1+1=j * 3+1+1+1+1 from rfl,show j * 3+1+1+1+2=j * 3+2+1+1+1 by omega];simp only [f3,List.getElem?_cons_succ,List.getElem_cons_succ];exact ih j (by simpa using h)
theorem f3_set0 (ts:List V3)(j:Nat)(x:Value)(h:j < ts.length):(f3 ts).set (j * 3) x=f3 (ts.set j (x,ts[j].2.1,ts[j].2.2)):=by
 induction ts generalizing j with
 | nil=>simp at h
 | cons s r ih =>
  cases j with
  | zero=>rfl
  | succ j =>
   rw [show (j+1) * 3=j * 3+1+1+1 by omega];simp only [f3,List.set_cons_succ,List.getElem_cons_succ];rw [ih j (by simpa using h)]
theorem f3_set1 (ts:List V3)(j:Nat)(x:Value)(h:j < ts.length):(f3 ts).set (j * 3+1) x=f3 (ts.set j (ts[j].1,x,ts[j].2.2)):=by
 induction ts generalizing j with
 | nil=>simp at h
 | cons s r ih =>
  cases j with
  | zero=>rfl
  | succ j =>
   rw [show (j+1) * 3+1=j * 3+1+1+1+1 by omega];simp only [f3,List.set_cons_succ,List.getElem_cons_succ];rw [ih j (by simpa using h)]
theorem f3_set2 (ts:List V3)(j:Nat)(x:Value)(h:j < ts.length):(f3 ts).set (j * 3+2) x=f3 (ts.set j (ts[j].1,ts[j].2.1,x)):=by
 induction ts generalizing j with
 | nil=>simp at h
 | cons s r ih =>
  cases j with
  | zero=>rfl
  | succ j =>
   rw [show (j+1) * 3+2=j * 3+2+1+1+1 by omega];simp only [f3,List.set_cons_succ,List.getElem_cons_succ];rw [ih j (by simpa using h)]
def TOwns (w:World) (e:TypeId) (v:Value) (ts:List V3):Prop:=w.ownsRow 0 e 3 v ts.length (f3 ts)
theorem TOwns.lt {w:World}{e:TypeId}{v:Value}{l:List V3}(h:TOwns w e v l):∀ k,v.ownBlock=some k->k < w.heap.size:=fun k hk=>(World.ownsRow.lt h k hk).2
theorem TOwns.of_heap {w w':World}{e:TypeId}{v:Value}{l:List V3}(h:TOwns w e v l)(hh:∀ k,v.ownBlock=some k->w'.heap[k]?=w.heap[k]?):TOwns w' e v l:=by
 refine ⟨h.1,?_⟩;rcases h.2 with h1 | ⟨g,cap,cur,h1,h2,h3,h4⟩
 ·exact .inl h1
 ·exact .inr ⟨g,cap,cur,h1,h2,by rw [hh g (by rw [h1];rfl),h3],h4⟩
theorem TOwns.nil (w:World)(e:TypeId):TOwns w e (.slice none 0 0) []:=World.ownsRow_nil _ _ _ _
theorem TOwns.lit (w:World)(e:TypeId)(cs:Array Value)(ts:List V3)(hc:cs.toList=f3 ts)(hm:ts.length<=maxLen):TOwns (w.alloc (.cells cs e)) e (.slice (some ⟨w.heap.size,0,none⟩) ts.length ts.length) ts:=by
 have h1:cs.size=ts.length * 3:=by rw [← Array.length_toList,hc,zcw]
 have:=World.ownsRow_lit (base:=0) (e:=e) (size:=3) w cs ts.length (Nat.zero_le _) hm h1;unfold TOwns
 rwa [hc] at this
theorem TOwns.form {w:World}{e:TypeId}{v:Value}{l:List V3}(h:TOwns w e v l):∃ a cap,v=.slice a l.length cap/\l.length<=cap/\(a=none->l=[]):=by
 rcases h.2 with ⟨rfl,h0⟩ | ⟨g,cap,cur,rfl,_,_,hc,_⟩
 ·exact ⟨none,0,by rw [h0],by omega,fun _=>List.length_eq_zero_iff.1 h0⟩
 ·exact ⟨_,_,rfl,hc,fun h=>by cases h⟩
theorem TOwns.at {w:World}{e:TypeId}{v:Value}{l:List V3}(h:TOwns w e v l)(k:Nat)(hk:k < l.length) :
  ∃ g cap,v=.slice (some ⟨g,0,none⟩) l.length cap/\w.cell? ⟨g,k * 3,none⟩=some l[k].1/\w.cell? ⟨g,k * 3+1,none⟩=some l[k].2.1/\w.cell? ⟨g,k * 3+2,none⟩=some l[k].2.2/\(∀ j,w.frozen? ⟨g,j,none⟩=false)/\g < w.heap.size/\l.length<=cap:=by
 have hlt:=h.lt;rcases h.2 with ⟨h1,h0⟩ | ⟨g,cap,cur,rfl,h2,h3,h4,h5,h6,h7⟩
 ·omega
 ·have h':w.ownsRow 0 e 3 (.slice (some ⟨g,0,none⟩) l.length cap) l.length (f3 l):=h;exact ⟨g,cap,rfl,(h'.cellAt _ (by omega)).trans (f3_at l k hk).1,(h'.cellAt _ (by omega)).trans (f3_at l k hk).2.1,(h'.cellAt _ (by omega)).trans (f3_at l k hk).2.2,h'.frozenAt,hlt g rfl,h4⟩
theorem TOwns.set0 {w:World}{g cap:Nat}{e:TypeId}{l:List V3}(h:TOwns w e (.slice (some ⟨g,0,none⟩) l.length cap) l)(k:Nat)(hk:k < l.length)(x:Value) :
  TOwns (w.setCell ⟨g,k * 3,none⟩ x) e (.slice (some ⟨g,0,none⟩) l.length cap) (l.set k (x,l[k].2.1,l[k].2.2)):=by
 unfold TOwns;rw [List.length_set,← f3_set0 l k x hk];exact (World.ownsRow.stored h (k * 3) x).1
theorem TOwns.set1 {w:World}{g cap:Nat}{e:TypeId}{l:List V3}(h:TOwns w e (.slice (some ⟨g,0,none⟩) l.length cap) l)(k:Nat)(hk:k < l.length)(x:Value) :
  TOwns (w.setCell ⟨g,k * 3+1,none⟩ x) e (.slice (some ⟨g,0,none⟩) l.length cap) (l.set k (l[k].1,x,l[k].2.2)):=by
 unfold TOwns;rw [List.length_set,← f3_set1 l k x hk];exact (World.ownsRow.stored h (k * 3+1) x).1
theorem TOwns.set2 {w:World}{g cap:Nat}{e:TypeId}{l:List V3}(h:TOwns w e (.slice (some ⟨g,0,none⟩) l.length cap) l)(k:Nat)(hk:k < l.length)(x:Value) :
  TOwns (w.setCell ⟨g,k * 3+2,none⟩ x) e (.slice (some ⟨g,0,none⟩) l.length cap) (l.set k (l[k].1,l[k].2.1,x)):=by
 unfold TOwns;rw [List.length_set,← f3_set2 l k x hk];exact (World.ownsRow.stored h (k * 3+2) x).1
theorem TOwns.set {w:World}{g cap:Nat}{e:TypeId}{l:List V3}(h:TOwns w e (.slice (some ⟨g,0,none⟩) l.length cap) l)(k:Nat)(hk:k < l.length)(x y z:Value) :
  TOwns (((w.setCell ⟨g,k * 3,none⟩ x).setCell ⟨g,k * 3+1,none⟩ y).setCell ⟨g,k * 3+2,none⟩ z) e (.slice (some ⟨g,0,none⟩) l.length cap) (l.set k (x,y,z)):=by
 have h1:=h.set0 k hk x;have h2:TOwns (w.setCell ⟨g,k * 3,none⟩ x) e (.slice (some ⟨g,0,none⟩) (l.set k (x,l[k].2.1,l[k].2.2)).length cap) (l.set k (x,l[k].2.1,l[k].2.2)):=by rw [List.length_set];exact h1
 have h3:=h2.set1 k (by simpa using hk) y;simp only [List.length_set,List.getElem_set_self,List.set_set] at h3;have h4:TOwns ((w.setCell ⟨g,k * 3,none⟩ x).setCell ⟨g,k * 3+1,none⟩ y) e (.slice (some ⟨g,0,none⟩) (l.set k (x,y,l[k].2.2)).length cap) (l.set k (x,y,l[k].2.2)):=by rw [List.length_set];exact h3
 have h5:=h4.set2 k (by simpa using hk) z;simp only [List.length_set,List.getElem_set_self,List.set_set] at h5;exact h5
structure Chg (S:Nat->Prop) (w w':World):Prop where
 os:w'.os=w.os
 tape:w'.tape=w.tape
 output:w'.output=w.output
 size:w.heap.size<=w'.heap.size
 block:∀ k,k < w.heap.size->¬ S k->w'.heap[k]?=w.heap[k]?
theorem Chg.refl (S:Nat->Prop)(w:World):Chg S w w:=⟨rfl,rfl,rfl,Nat.le_refl _,fun _ _ _=>rfl⟩
theorem Chg.trans {S:Nat->Prop}{a b c:World}(h:Chg S a b)(k:Chg S b c):Chg S a c :=
 ⟨k.os.trans h.os,k.tape.trans h.tape,k.output.trans h.output,Nat.le_trans h.size k.size,fun i hi hr=>(k.block i (by have:=h.size;omega) hr).trans (h.block i hi hr)⟩
theorem Chg.mono {S S':Nat->Prop}{a b:World}(h:Chg S a b)(hs:∀ k,S k->S' k):Chg S' a b:=⟨h.os,h.tape,h.output,h.size,fun k hk hn=>h.block k hk fun e=>hn (hs k e)⟩
theorem Chg.of_below {S:Nat->Prop}{a b:World}(h:Below a.heap.size a b):Chg S a b:=⟨h.os,h.tape,h.output,h.size,fun k hk _=>h.block k hk⟩
theorem Chg.of_grown {S:Nat->Prop}{a b:World}{row:Option Nat}(h:a.grownBy b row)(hr:∀ k,row=some k->S k):Chg S a b:=⟨h.os,h.tape,h.output,h.size,fun k hk hn=>h.block k hk fun e=>hn (hr k e.symm)⟩
theorem Chg.below {S:Nat->Prop}{a b:World}{B:Nat}(h:Chg S a b)(hB:B<=a.heap.size)(hs:∀ k,S k->B<=k):Below B a b :=
 ⟨h.os,h.tape,h.output,h.size,fun k hk=>h.block k (by omega) fun e=>by have:=hs k e;omega⟩
theorem Chg.setCell {S:Nat->Prop}{a b:World}(h:Chg S a b){g j:Nat}(hg:S g)(x:Value):Chg S a (b.setCell ⟨g,j,none⟩ x) :=
 h.trans ⟨rfl,rfl,rfl,by simp,fun k _ hn=>heap_setCell_other b ⟨g,j,none⟩ k x (fun e=>hn (by simp at e;subst e;exact hg))⟩
structure Kd (α:Type) where
 T:TypeId
 p:V3->Value
 O:World->V3->α->Prop
 R:World->V3->α->Prop
 heap:∀ {w w':World} {t:V3} {x:α},O w t x->(∀ k,(p t).ownBlock=some k->w'.heap[k]?=w.heap[k]?)->O w' t x
 lt:∀ {w:World} {t:V3} {x:α},O w t x->∀ k,(p t).ownBlock=some k->k < w.heap.size
 rd:∀ {w:World} {t:V3} {x:α},O w t x->R w t x
 bel:∀ {w w':World} {t:V3} {x:α} {B:Nat},R w t x->Below B w w'->w.heap.size<=B->R w' t x
structure GO {α:Type} (K:Kd α) (w:World) (S:Nat->Prop) (v:Value) (ts:List V3) (xs:List α):Prop where
 len:ts.length=xs.length
 row:TOwns w K.T v ts
 inn:∀ (j:Nat) (h:j < ts.length) (h':j < xs.length),K.O w ts[j] xs[j]
 sep:∀ (i j:Nat) (hi:i < ts.length) (hj:j < ts.length),i≠j->∀ k,(K.p ts[i]).ownBlock=some k->(K.p ts[j]).ownBlock≠some k
 out:∀ (j:Nat) (h:j < ts.length) (k:Nat),(K.p ts[j]).ownBlock=some k->v.ownBlock≠some k
 so:∀ k,v.ownBlock=some k->S k
 si:∀ (j:Nat) (h:j < ts.length) (k:Nat),(K.p ts[j]).ownBlock=some k->S k
namespace GO
variable {α : Type} {K : Kd α} {w w' : World} {S S' : Nat -> Prop} {v : Value} {ts : List V3} {xs : List α}
theorem of_heap (h:GO K w S v ts xs)(hh:∀ k,S k->k < w.heap.size->w'.heap[k]?=w.heap[k]?):GO K w' S v ts xs :=
 ⟨h.len,h.row.of_heap fun k hk=>hh k (h.so k hk) (h.row.lt k hk),fun j hj hj'=>K.heap (h.inn j hj hj') fun k hk=>hh k (h.si j hj k hk) (K.lt (h.inn j hj hj') k hk),h.sep,h.out,h.so,h.si⟩
theorem below {B:Nat}(h:GO K w S v ts xs)(hb:Below B w w')(hB:w.heap.size<=B):GO K w' S v ts xs:=h.of_heap fun k _ hk=>hb.block k (by omega)
theorem chg (h:GO K w S v ts xs)(hc:Chg S' w w')(hd:∀ k,S k->¬ S' k):GO K w' S v ts xs:=h.of_heap fun k hs hk=>hc.block k hk (hd k hs)
theorem alloc (h:GO K w S v ts xs)(o:Obj):GO K (w.alloc o) S v ts xs:=h.below ((Below.refl _ w).alloc nR o) nR
theorem drew (h:GO K w S v ts xs):GO K w.drew S v ts xs:=h.below (Below.refl w.heap.size w).drew nR
theorem mono (h:GO K w S v ts xs)(hs:∀ k,S k->S' k):GO K w S' v ts xs:=⟨h.len,h.row,h.inn,h.sep,h.out,fun k e=>hs k (h.so k e),fun j hj k e=>hs k (h.si j hj k e)⟩
theorem form (h:GO K w S v ts xs):∃ a cap,v=.slice a xs.length cap:=by
 obtain ⟨a,c,e,_⟩:=h.row.form;exact ⟨a,c,by rw [e,h.len]⟩
theorem turn (h:GO K w S v ts xs)(j:Nat)(hj:j < ts.length)(t':V3)(x':α)(hr:TOwns w' K.T v (ts.set j t'))(hO:K.O w' t' x')
  (hf:∀ k,k < w.heap.size->v.ownBlock≠some k->(K.p ts[j]).ownBlock≠some k->w'.heap[k]?=w.heap[k]?)
  (hn:∀ k,(K.p t').ownBlock=some k->(K.p ts[j]).ownBlock=some k\/w.heap.size<=k) (hs:∀ k,S k->S' k) (hs2:∀ k,(K.p t').ownBlock=some k->S' k):GO K w' S' v (ts.set j t') (xs.set j x'):=by
 have hl:=h.len;have hv:=h.row.lt;refine ⟨by simp [hl],hr,fun i hi hi'=>?_,fun i i2 hi hi2 hne k e1 e2=>?_,fun i hi k e1 e2=>?_,fun k e=>hs k (h.so k e),fun i hi k e=>?_⟩
 ·simp only [List.length_set] at hi hi';by_cases e:j=i
  ·subst e;simp only [List.getElem_set_self];exact hO
  ·simp only [List.getElem_set_ne e];exact K.heap (h.inn i hi hi') fun k hk=>hf k (K.lt (h.inn i hi hi') k hk) (fun e'=>h.out i hi k hk e') (fun e'=>h.sep i j hi hj (fun q=>e q.symm) k hk e')
 ·simp only [List.length_set] at hi hi2;by_cases ei:j=i
  ·subst ei;simp only [List.getElem_set_self] at e1;rw [List.getElem_set_ne hne] at e2;rcases hn k e1 with q | q
   ·exact h.sep j i2 hi hi2 hne k q e2
   ·have:=K.lt (h.inn i2 hi2 (by omega)) k e2;omega
  ·rw [List.getElem_set_ne ei] at e1;by_cases e2':j=i2
   ·subst e2';simp only [List.getElem_set_self] at e2;rcases hn k e2 with q | q
    ·exact h.sep i j hi hj hne k e1 q
    ·have:=K.lt (h.inn i hi (by omega)) k e1;omega
   ·rw [List.getElem_set_ne e2'] at e2;exact h.sep i i2 hi hi2 hne k e1 e2
 ·simp only [List.length_set] at hi;by_cases ei:j=i
  ·subst ei;simp only [List.getElem_set_self] at e1;rcases hn k e1 with q | q
   ·exact h.out j hi k q e2
   ·have:=hv k e2;omega
  ·rw [List.getElem_set_ne ei] at e1;exact h.out i hi k e1 e2
 ·simp only [List.length_set] at hi;by_cases ei:j=i
  ·subst ei;simp only [List.getElem_set_self] at e;exact hs2 k e
  ·rw [List.getElem_set_ne ei] at e;exact hs k (h.si i hi k e)
end GO
def R3 {α:Type} (K:Kd α) (w:World) (v:Value) (xs:List α):Prop:=∃ a cap,v=.slice a xs.length cap/\xs.length<=cap/\∀ (j:Nat) (h:j < xs.length),∃ g off t,a=some ⟨g,off,none⟩/\g < w.heap.size/\w.cell? ⟨g,off+j * 3,none⟩=some t.1/\w.cell? ⟨g,off+j * 3+1,none⟩=some t.2.1/\w.cell? ⟨g,off+j * 3+2,none⟩=some t.2.2/\K.R w t xs[j]
theorem R3.below {α:Type}{K:Kd α}{w w':World}{B:Nat}{v:Value}{xs:List α}(h:R3 K w v xs)(hb:Below B w w')(hB:w.heap.size<=B):R3 K w' v xs:=by
 obtain ⟨a,cap,rfl,hcap,h⟩:=h;refine ⟨a,cap,rfl,hcap,fun j hj=>?_⟩;obtain ⟨g,off,t,e,hg,c0,c1,c2,r⟩:=h j hj;have hg':=Nat.lt_of_lt_of_le hg hB;exact ⟨g,off,t,e,Nat.lt_of_lt_of_le hg hb.size,(hb.cell (p:=⟨g,off+j * 3,none⟩) hg').trans c0,(hb.cell (p:=⟨g,off+j * 3+1,none⟩) hg').trans c1,(hb.cell (p:=⟨g,off+j * 3+2,none⟩) hg').trans c2,K.bel r hb hB⟩
theorem R3.alloc {α:Type}{K:Kd α}{w:World}{v:Value}{xs:List α}(h:R3 K w v xs)(o:Obj):R3 K (w.alloc o) v xs:=h.below ((Below.refl _ w).alloc nR o) nR
theorem R3.drew {α:Type}{K:Kd α}{w:World}{v:Value}{xs:List α}(h:R3 K w v xs):R3 K w.drew v xs:=h.below (Below.refl w.heap.size w).drew nR
theorem R3.form {α:Type}{K:Kd α}{w:World}{v:Value}{xs:List α}(h:R3 K w v xs):∃ a c,v=.slice a xs.length c:=by
 obtain ⟨a,c,h,_⟩:=h;exact ⟨a,c,h⟩
theorem R3.form2 {α:Type}{K:Kd α}{w:World}{v:Value}{xs:List α}(h:R3 K w v xs):∃ a c,v=.slice a xs.length c/\xs.length<=c:=by
 obtain ⟨a,c,h,h2,_⟩:=h;exact ⟨a,c,h,h2⟩
theorem GO.r3 {α:Type}{K:Kd α}{w:World}{S:Nat->Prop}{v:Value}{ts:List V3}{xs:List α}(h:GO K w S v ts xs):R3 K w v xs:=by
 obtain ⟨a,cap,e,hc,hnil⟩:=h.row.form;have hl:=h.len;refine ⟨a,cap,by rw [e,hl],by omega,fun j hj=>?_⟩;obtain ⟨g,c,e1,c0,c1,c2,_,hg,_⟩:=h.row.at j (by omega);rw [e] at e1;simp only [Value.slice.injEq] at e1;obtain ⟨rfl,-,-⟩:=e1;exact ⟨g,0,ts[j]'(by omega),rfl,hg,by rw [Nat.zero_add];exact c0,by rw [Nat.zero_add];exact c1,by rw [Nat.zero_add];exact c2,K.rd (h.inn j (by omega) hj)⟩
abbrev Ino:=Int×Int×List Int
abbrev Blk:=Bool×List Sl×ByteArray
def KI:Kd Ino where
 T:=63
 p:=fun t=>t.2.2
 O:=fun w t x=>t.1=.int .i64 x.1/\t.2.1=.int .i64 x.2.1/\ROwns w 0 3 t.2.2 (ic x.2.2)
 R:=fun w t x=>t.1=.int .i64 x.1/\t.2.1=.int .i64 x.2.1/\RInts w t.2.2 x.2.2
 heap:=fun h hh=>⟨h.1,h.2.1,h.2.2.of_heap hh⟩
 lt:=fun h k hk=>(h.2.2.lt k hk).2
 rd:=fun h=>⟨h.1,h.2.1,h.2.2.rints⟩
 bel:=fun h hb hB=>⟨h.1,h.2.1,h.2.2.below hb hB⟩
def KB:Kd Blk where
 T:=74
 p:=fun t=>t.2.1
 O:=fun w t x=>t.1=.bool x.1/\SOwns w 0 100 t.2.1 x.2.1/\t.2.2=.string x.2.2
 R:=fun w t x=>t.1=.bool x.1/\RSl w t.2.1 x.2.1/\t.2.2=.string x.2.2
 heap:=fun h hh=>⟨h.1,h.2.1.of_heap hh,h.2.2⟩
 lt:=fun h k hk=>(h.2.1.lt k hk).2
 rd:=fun h=>⟨h.1,h.2.1.rsl,h.2.2⟩
 bel:=fun h hb hB=>⟨h.1,h.2.1.below hb hB,h.2.2⟩
end Kit
theorem zms (z:Value)(n:Nat)(l:List Value)(h:List.replicate n z=l):madeCells #[z] n=l.toArray:=Array.toList_inj.1 (by rw [toList_madeCells_one,h])
def fl16:Array Value:=(fc (List.replicate 16 false)).toArray
theorem make16 (w:World):(Instr.makeSlice 22 (.int .i64 16) (.int .i64 16)).run Tryz.prog w=.ok (.slice (some ⟨w.heap.size,0,none⟩) 16 16) (w.alloc (.cells fl16 4)):=by
 have:=zju 16 (by decide) w;rw [zms _ 16 (fc (List.replicate 16 false)) (by simp [fc])] at this;exact this
theorem make8 (w:World):(Instr.makeSlice 22 (.int .i64 8) (.int .i64 8)).run Tryz.prog w=.ok (.slice (some ⟨w.heap.size,0,none⟩) 8 8) (w.alloc (.cells #[.bool false,.bool false,.bool false,.bool false,.bool false,.bool false,.bool false,.bool false] 4)):=by
 have:=zju 8 (by decide) w;rw [zms _ 8 [.bool false,.bool false,.bool false,.bool false,.bool false,.bool false,.bool false,.bool false] rfl] at this;exact this
def okB (n m:Nat):Bool:=decide (n=16) && decide (m=8)
theorem zjv (a1 a2:Option Addr)(n m c1 c2:Nat)(w:World) :
  Calls Tryz.prog 75 #[.agg #[.slice a1 n c1,.slice a2 m c2]] w fun e w'=>e=.returned (.bool (okB n m))/\Below w.heap.size w w':=by
 by_cases h1:n=16
 ·by_cases h2:m=8
  ·subst h1 h2;go_enter Tryz.func75,Tryz.ntmps75
   go_wp2;go_ret;exact ⟨rfl,by go_grown⟩
  ·subst h1;have q:((m:Int) == 8)=false:=by simp;omega
   rw [show okB 16 m=false by simp [okB,h2]];go_enter Tryz.func75,Tryz.ntmps75
   go_wp2;go_ret;exact ⟨rfl,by go_grown⟩
 ·have q:((n:Int) == 16)=false:=by simp;omega
  rw [show okB n m=false by simp [okB,h1]];go_enter Tryz.func75,Tryz.ntmps75
  go_wp2;go_ret;exact ⟨rfl,by go_grown⟩
theorem zjw (a1 a2:Option Addr)(n m c1 c2:Nat)(w:World) :
  Calls Tryz.prog 90 #[.agg #[.slice a1 n c1,.slice a2 m c2]] w fun e w'=>e=.returned (.bool (okB n m))/\Below w.heap.size w w':=by
 by_cases h1:n=16
 ·by_cases h2:m=8
  ·subst h1 h2;go_enter Tryz.func90,Tryz.ntmps90
   go_wp2;go_ret;exact ⟨rfl,by go_grown⟩
  ·subst h1;have q:((m:Int) == 8)=false:=by simp;omega
   rw [show okB 16 m=false by simp [okB,h2]];go_enter Tryz.func90,Tryz.ntmps90
   go_wp2;go_ret;exact ⟨rfl,by go_grown⟩
 ·have q:((n:Int) == 16)=false:=by simp;omega
  rw [show okB n m=false by simp [okB,h1]];go_enter Tryz.func90,Tryz.ntmps90
  go_wp2;go_ret;exact ⟨rfl,by go_grown⟩
theorem toN_anyB (u v:Value)(xs ys:List Bool)(w:World)(hu:RFl w u xs)(hv:RFl w v ys)(hx:xs.length<=1048576)(hy:ys.length<=1048576) :
  Calls Tryz.prog 17 #[.agg #[u,v]] w fun e w'=>∃ u' v',e=.returned (.agg #[u',v'])/\Two w' w.heap.size u' v' xs ys/\Below w.heap.size w w':=by
 have HU:=hide hu;have HV:=hide hv;obtain ⟨a,c,rfl,-⟩:=hu;obtain ⟨a2,c2,rfl,-⟩:=hv;go_enter Tryz.func17,Tryz.ntmps17
 go_wp2_with fail
 refine (zko _ xs _ (((HU.out.alloc _).alloc _).alloc _) hx).mono ?_;rintro e w1 ⟨u1,rfl,O1,B1⟩;obtain ⟨s1,t1,rfl⟩:=O1.rfl.form;have K0:AtP 24 w1 w.heap.size (.slice a xs.length c) (.slice a2 ys.length c2):=(((AtP.new 24 w _ _).alloc _).alloc _).below B1 (by simp;omega);have K1:AtP 31 w1 (w.heap.size+1) (.slice none 0 0) (.slice none 0 0):=by
  have:=((AtP.new 31 (w.alloc (Obj.cells #[.slice a xs.length c,.slice a2 ys.length c2] 24)) (.slice none 0 0) (.slice none 0 0)).alloc (Obj.cells #[.slice none 0 0,.slice none 0 0] 31)).below B1 (by simp)
  rwa [World.size_alloc] at this
 have K2:AtP 31 w1 (w.heap.size+1+1) (.slice none 0 0) (.slice none 0 0):=by
  have:=(AtP.new 31 ((w.alloc (Obj.cells #[.slice a xs.length c,.slice a2 ys.length c2] 24)).alloc (Obj.cells #[.slice none 0 0,.slice none 0 0] 31)) (.slice none 0 0) (.slice none 0 0)).below B1 (by simp)
  rwa [World.size_alloc,World.size_alloc] at this
 have B2:Below w.heap.size w w1:=((((Below.refl _ w).alloc nR _).alloc (by simp) _).alloc (by simp;omega) _).trans (B1.mono (by simp;omega));have V1:RFl w1 (.slice a2 ys.length c2) ys:=(((HV.out.alloc _).alloc _).alloc _).below B1 nR;have O2:ROwns w1 (w.heap.size+1+1+1) 4 (.slice s1 xs.length t1) (fc xs):=O1.base_le (by simp);obtain ⟨p0,p1⟩:=K2.cells;obtain ⟨f0,f1⟩:=K2.frozen;have m1:=K2.lt
 -- behind the store
 have K0':=K0.set_other (B:=w.heap.size+1+1) (j:=0) (by omega) (.slice s1 xs.length t1);have K1':=K1.set_other (B:=w.heap.size+1+1) (j:=0) (by omega) (.slice s1 xs.length t1);have K2':=K2.set0 (.slice s1 xs.length t1);have O2':=O2.setCell_other (b:=w.heap.size+1+1) (j:=0) (by omega) (.slice s1 xs.length t1);have B2':=B2.setCell (p:=⟨w.heap.size+1+1,0,none⟩) (by show w.heap.size<=w.heap.size+1+1;omega) (.slice s1 xs.length t1);have V1':RFl (w1.setCell ⟨w.heap.size+1+1,0,none⟩ (.slice s1 xs.length t1)) (.slice a2 ys.length c2) ys:=HV.out.below B2' nR;obtain ⟨w2,hw2⟩:∃ w2,w1.setCell ⟨w.heap.size+1+1,0,none⟩ (.slice s1 xs.length t1)=w2:=⟨_,rfl⟩
 rw [hw2] at K0' K1' K2' O2' B2' V1';obtain ⟨d0,d1⟩:=K0'.cells;have m2:=K0'.lt;have H2:=hide (And.intro K1' (And.intro K2' (And.intro O2' (And.intro B2' V1'))));clear K0 K1 K2 K0' K1' K2' O1 O2 O2' B1 B2 B2' V1 V1' HU HV;go_wp2_with fail
 clear hw2 p0 p1 f0 f1 m1;refine (zko _ ys w2 H2.out.2.2.2.2 hy).mono ?_;rintro e w3 ⟨u2,rfl,O3,B3⟩;obtain ⟨s2,t2,rfl⟩:=O3.rfl.form;have K1:=H2.out.1.below B3 H2.out.1.lt;have K2:=H2.out.2.1.below B3 H2.out.2.1.lt;have P1:=H2.out.2.2.1.below B3 nR;have b3:=H2.out.2.2.2.1.trans (B3.mono H2.out.2.2.2.1.size);have hs2:w.heap.size+1+1 < w2.heap.size:=H2.out.2.1.lt;have T3:Two w3 (w.heap.size+1+1+1) (.slice s1 xs.length t1) (.slice s2 ys.length t2) xs ys:=⟨P1,O3.base_le (by omega),fun k e1 e2=>by have h1:=(H2.out.2.2.1.lt k e1).2;have h2:=(O3.lt k e2).1;omega⟩
 obtain ⟨p0,p1⟩:=K2.cells;obtain ⟨f0,f1⟩:=K2.frozen;obtain ⟨q0,q1⟩:=K1.cells;obtain ⟨g0,g1⟩:=K1.frozen;have m1:=K2.lt;have m3:=K1.lt;have H3:=hide (And.intro T3 b3);clear K1 K2 P1 O3 B3 b3 T3 H2 d0 d1 m2;go_wp2;refine bodyPost_ret (v:=.agg #[.slice s1 xs.length t1,.slice s2 ys.length t2]) (by simp [results,go_sem,q0,q1]) rfl ⟨_,_,rfl,?_,?_⟩
 ·exact (((H3.out.1.set_other (by omega) _).set_other (by omega) _).set_other (by omega) _).base_le (by omega)
 ·exact (((H3.out.2.setCell (by simp;omega) _).setCell (by simp) _).setCell (by simp) _)
theorem ze6 {w1:World}{b:Nat}(K:w1.heap[b]?=some (.cells #[.int .i64 0,.int .i64 0,.slice none 0 0] 63 (0,0))) :
  w1.cell? ⟨b,0,none⟩=some (.int .i64 0)/\w1.cell? ⟨b,1,none⟩=some (.int .i64 0)/\w1.cell? ⟨b,2,none⟩=some (.slice none 0 0)/\w1.frozen? ⟨b,0,none⟩=false/\w1.frozen? ⟨b,1,none⟩=false/\w1.frozen? ⟨b,2,none⟩=false/\b < w1.heap.size:=by
 refine ⟨by simp [World.cell?,K],by simp [World.cell?,K],by simp [World.cell?,K],by simp [World.frozen?,K],by simp [World.frozen?,K],by simp [World.frozen?,K],(Array.getElem?_eq_some_iff.1 K).1⟩
theorem zel (k:Int)(w:World) :
  Calls Tryz.prog 126 #[.int .i64 k] w fun e w'=>∃ v,e=.returned (.agg #[.int .i64 k,.int .i64 (zau k),v])/\ROwns w' w.heap.size 3 v (ic [0,0])/\Below w.heap.size w w':=by
 obtain ⟨nl,hnl⟩:∃ l,zau k=l:=⟨_,rfl⟩
 rw [hnl];by_cases h:k=0
 ·have e1:nl=0:=by rw [← hnl];simp [zau,h]
  subst h e1;clear hnl;go_enter Tryz.func126,Tryz.ntmps126
  go_wp2_with fail
  refine (zmo _ _ _ _ _).mono ?_;rintro e w1 ⟨v,rfl,O1,B1⟩;obtain ⟨q0,q1,q2,z0,z1,z2,hlt⟩:=ze6 (w1:=w1) (b:=w.heap.size) ((B1.block _ (by simp;omega)).trans (zic w _ _));obtain ⟨a1,c1,rfl⟩:=O1.form2;have HO:=hide O1;have HB:=hide B1;clear O1 B1;go_wp2;refine bodyPost_ret (v:=.agg #[.int .i64 0,.int .i64 0,.slice a1 2 c1]) (by simp [results,go_sem,q0,q1,q2]) rfl ⟨_,rfl,?_,?_⟩
  ·exact ((((HO.out.setCell_other (by simp;omega) _).setCell_other (by simp;omega) _).setCell_other (by simp;omega) _).base_le (by simp;omega))
  ·have hB:Below w.heap.size w w1:=(((Below.refl _ w).alloc nR _).alloc (by simp) _).trans (HB.out.mono (by simp;omega));exact ((hB.setCell nR _).setCell nR _).setCell nR _
 ·have h0:(k == 0)=false:=by simpa using h
  have h1:(k != 0)=true:=by simpa using h
  have e1:nl=1:=by rw [← hnl];simp [zau,h]
  subst e1;clear hnl;go_enter Tryz.func126,Tryz.ntmps126
  go_wp2_with fail
  refine (zmo _ _ _ _ _).mono ?_;rintro e w1 ⟨v,rfl,O1,B1⟩;obtain ⟨q0,q1,q2,z0,z1,z2,hlt⟩:=ze6 (w1:=w1) (b:=w.heap.size) ((B1.block _ (by simp;omega)).trans (zic w _ _));obtain ⟨a1,c1,rfl⟩:=O1.form2;have HO:=hide O1;have HB:=hide B1;clear O1 B1;go_wp2;refine bodyPost_ret (v:=.agg #[.int .i64 k,.int .i64 1,.slice a1 2 c1]) (by simp [results,go_sem,q0,q1,q2]) rfl ⟨_,rfl,?_,?_⟩
  ·exact ((((HO.out.setCell_other (by simp;omega) _).setCell_other (by simp;omega) _).setCell_other (by simp;omega) _).base_le (by simp;omega))
  ·have hB:Below w.heap.size w w1:=(((Below.refl _ w).alloc nR _).alloc (by simp) _).trans (HB.out.mono (by simp;omega));exact ((hB.setCell nR _).setCell nR _).setCell nR _
namespace Kit
def za3 (j:Nat) (xs:List Int):List Int:=xs.take j ++ List.replicate (xs.length - j) 0
theorem zdg (j:Nat)(xs:List Int)(h:j<=xs.length):(za3 j xs).length=xs.length:=by simp [za3];omega
theorem zig (xs:List Int):za3 0 xs=List.replicate xs.length 0:=by simp [za3]
theorem zjx (xs:List Int):za3 xs.length xs=xs:=by simp [za3]
theorem zih (j:Nat)(xs:List Int)(h:j < xs.length):(ic (za3 j xs))[j]?=some (.int .i64 0):=by
 unfold ic za3;have e:(List.map (fun z=>Value.int .i64 z) (xs.take j)).length=j:=by simp;omega
 rw [List.map_append,List.getElem?_append_right (by omega),e,Nat.sub_self,List.map_replicate,List.getElem?_replicate,if_pos (by omega)]
theorem zjy (j:Nat)(xs:List Int)(h:j < xs.length):(ic (za3 j xs)).set j (.int .i64 xs[j])=ic (za3 (j+1) xs):=by
 have e:(za3 j xs).set j xs[j]=za3 (j+1) xs:=by
  unfold za3;rw [List.set_append_right _ _ (by simp;omega),List.take_succ_eq_append_getElem h,List.length_take,Nat.min_eq_left (by omega),Nat.sub_self,show xs.length - j=(xs.length - (j+1))+1 by omega,List.replicate_succ,List.set_cons_zero,List.append_assoc];rfl
 rw [← e];simp [ic,List.map_set]
end Kit
theorem make_nI (n:Nat)(h:n<=1048576)(w:World):(Instr.makeSlice 54 (.int .i64 (n:Int)) (.int .i64 (n:Int))).run Tryz.prog w=.ok (.slice (some ⟨w.heap.size,0,none⟩) n n) (w.alloc (.cells (madeCells #[.int .i64 0] n) 3)) :=
 run_make_row' 54 3 (.int .i64 0) 8 Tryz.u54 Tryz.i3 rfl .i64 .i64 n (by omega) (by omega) w
theorem toI_any (v:Value)(xs:List Int)(w:World)(hv:RInts w v xs)(hl:xs.length<=1048576) :
  Calls Tryz.prog 88 #[v] w fun e w'=>∃ u,e=.returned u/\ROwns w' w.heap.size 3 u (ic xs)/\Below w.heap.size w w':=by
 obtain ⟨a,c,rfl,hc⟩:=hv;have HC:=hide hc;clear hc;have mk:=make_nI xs.length hl;go_enter Tryz.func88,Tryz.ntmps88
 go_wp2;go_loopw [4] (fun i wr=>∃ j:Nat,j<=xs.length/\i=.int .i64 j/\ROwns wr w.heap.size 3 (.slice (some ⟨w.heap.size,0,none⟩) xs.length xs.length) (ic (za3 j xs))/\Below w.heap.size w wr) (fun i _=>xs.length - (intOf i).toNat)
 case atStart =>
  refine ⟨0,Nat.zero_le _,rfl,?_,(Below.refl _ w).alloc nR _⟩;have e1:(madeCells #[.int .i64 0] xs.length).toList=ic (za3 0 xs):=by rw [toList_madeCells_one,zig];simp [ic]
  have e2:(madeCells #[.int .i64 0] xs.length).size=xs.length:=by rw [← Array.length_toList,e1,zaf,zdg 0 xs (Nat.zero_le _)]
  have:=ROwns.lit w w.heap.size 3 (madeCells #[.int .i64 0] xs.length) nR (by rw [e2];unfold maxLen;omega)
  rwa [e1,e2] at this
 case round =>
  obtain ⟨j,hj,rfl,hown,hb⟩:=hrel;by_cases hlt:j < xs.length
  ·obtain ⟨g,off,rfl,hg,k1⟩:=HC.out j hlt;have q1:wr.cell? ⟨g,off+j,none⟩=some (.int .i64 xs[j]):=(hb.cell (p:=⟨g,off+j,none⟩) hg).trans k1;have hml:(ic (za3 j xs)).length=xs.length:=by rw [zaf,zdg j xs hj]
   obtain ⟨g2,c2,e1,q2,q3,-⟩:=hown.at j (by omega);rw [zih j xs hlt] at q2;simp only [Value.slice.injEq,Option.some.injEq,Addr.mk.injEq] at e1;obtain ⟨⟨rfl,-,-⟩,-,rfl⟩:=e1;have O1:ROwns wr w.heap.size 3 (.slice (some ⟨w.heap.size,0,none⟩) (ic (za3 j xs)).length xs.length) (ic (za3 j xs)):=by rw [hml];exact hown
   have O2:=O1.stored j (.int .i64 xs[j]);rw [zjy j xs hlt,hml] at O2;have HO:=hide (And.intro O2.1 (hb.setCell (p:=⟨w.heap.size,j,none⟩) nR (.int .i64 xs[j])));obtain ⟨t,ht⟩:∃ t,xs[j]=t:=⟨_,rfl⟩
   rw [ht] at q1 HO;have hne:¬ g=w.heap.size:=by omega
   have j0:(0:Int)<=(j:Int):=by omega
   have j1:(j:Int) < (xs.length:Int):=by omega
   clear hown hb hml O1 O2 ht k1 mk;go_wp2;go_roundw
   case rel=>exact ⟨j+1,by omega,by go_num,HO.out.1,HO.out.2⟩
   case measure=>simp [intOf];omega
  ·have hjl:j=xs.length:=by omega
   have HR:=hide (And.intro hown hb);have HJ:=hide hjl;clear hown hb hjl mk;go_wp2;go_ret;exact ⟨_,rfl,by have:=HR.out.1;rwa [HJ.out,zjx] at this,HR.out.2⟩
theorem toN_anyI (k l:Int)(v:Value)(xs:List Int)(w:World)(hv:RInts w v xs)(hl:xs.length<=1048576) :
  Calls Tryz.prog 46 #[.agg #[.int .i64 k,.int .i64 l,v]] w fun e w'=>∃ u,e=.returned (.agg #[.int .i64 k,.int .i64 l,u])/\ROwns w' w.heap.size 3 u (ic xs)/\Below w.heap.size w w':=by
 have HV:=hide hv;obtain ⟨a,c,rfl,-⟩:=hv;go_enter Tryz.func46,Tryz.ntmps46
 go_wp2_with fail
 refine (toI_any _ xs _ (((HV.out.alloc _).alloc _).alloc _) hl).mono ?_;rintro e w1 ⟨u,rfl,O1,B1⟩;obtain ⟨a1,c1,rfl⟩:=O1.rints.form;have K0:AtI w1 (w.heap.size+1) 0 0 (.slice none 0 0):=by
  have:=((AtI.new (w.alloc (Obj.cells #[.int .i64 k,.int .i64 l,.slice a xs.length c] 56)) 0 0 (.slice none 0 0)).alloc (Obj.cells #[.int .i64 k,.int .i64 l,.slice none 0 0] 63)).below B1 (by simp);simpa using this
 have K1:AtI w1 (w.heap.size+1+1) k l (.slice none 0 0):=by
  have:=(AtI.new ((w.alloc (Obj.cells #[.int .i64 k,.int .i64 l,.slice a xs.length c] 56)).alloc (Obj.cells #[.int .i64 0,.int .i64 0,.slice none 0 0] 63)) k l (.slice none 0 0)).below B1 (by simp);simpa using this
 obtain ⟨q0,q1,q2,z0,z1,z2,m0⟩:=ze6 (w1:=w1) (b:=w.heap.size+1) K0;obtain ⟨d0,d1,d2,m1⟩:=K1.cells;have f2:w1.frozen? ⟨w.heap.size+1+1,2,none⟩=false:=by
  have:w1.heap[w.heap.size+1+1]?=_:=K1;simp [World.frozen?,this]
 have B2:Below w.heap.size w w1:=((((Below.refl _ w).alloc nR _).alloc (by simp) _).alloc (by simp;omega) _).trans (B1.mono (by simp;omega));have O2:ROwns w1 (w.heap.size+1+1+1) 3 (.slice a1 xs.length c1) (ic xs):=O1.base_le (by simp);have HO:=hide O2;have HB:=hide B2;clear O1 O2 B1 B2 K0 K1;go_wp2;refine bodyPost_ret (v:=.agg #[.int .i64 k,.int .i64 l,.slice a1 xs.length c1]) (by simp [results,go_sem,q0,q1,q2]) rfl ⟨_,rfl,?_,?_⟩
 ·exact ((((((HO.out.setCell_other (by omega) _).setCell_other (by omega) _).setCell_other (by omega) _).setCell_other (by omega) _)).base_le (by omega))
 ·exact ((((HB.out.setCell (by simp;omega) _).setCell (by simp) _).setCell (by simp) _).setCell (by simp) _)
namespace Kit
end Kit
namespace Kit
end Kit
theorem zlm (t:ByteArray)(z:Int)(w:World) :
  Calls Tryz.prog 149 #[.agg #[.string t,.int .i64 z],.agg #[.string t,.int .i64 z]] w fun e w'=>e=.returned (.bool true)/\Below w.heap.size w w':=by
 go_enter Tryz.func149,Tryz.ntmps149
 go_wp2;go_ret;exact ⟨rfl,by go_grown⟩
theorem eqS_same (va vb:Value)(l:List Sl)(w:World)(ha:RSl w va l)(hb:RSl w vb l)(hl:l.length<=1048576) :
  Calls Tryz.prog 115 #[va,vb] w fun e w'=>e=.returned (.bool true)/\Below w.heap.size w w':=by
 obtain ⟨a1,c1,rfl,-,ha⟩:=ha;obtain ⟨a2,c2,rfl,-,hb⟩:=hb;have HA:=hide ha;have HB:=hide hb;clear ha hb;go_enter Tryz.func115,Tryz.ntmps115
 go_wp2;go_loopw [5] (fun i wr=>∃ j:Nat,j<=l.length/\i=.int .i64 j/\Below w.heap.size w wr) (fun i _=>l.length - (intOf i).toNat)
 case atStart=>exact ⟨0,Nat.zero_le _,rfl,Below.refl _ _⟩
 case round =>
  obtain ⟨j,hj,rfl,hb⟩:=hrel;by_cases hlt:j < l.length
  ·obtain ⟨g1,o1,rfl,hg1,m1,m2⟩:=HA.out j hlt;obtain ⟨g2,o2,rfl,hg2,m3,m4⟩:=HB.out j hlt;have HS:Hid (∀ w',Below w.heap.size w w'->w'.cell? ⟨g1,o1+j * 2,none⟩=some (.string l[j].1)/\w'.cell? ⟨g1,o1+j * 2+1,none⟩=some (.int .i64 l[j].2)/\w'.cell? ⟨g2,o2+j * 2,none⟩=some (.string l[j].1)/\w'.cell? ⟨g2,o2+j * 2+1,none⟩=some (.int .i64 l[j].2)):=fun w' hb =>
    ⟨(hb.cell (p:=⟨g1,o1+j * 2,none⟩) hg1).trans m1,(hb.cell (p:=⟨g1,o1+j * 2+1,none⟩) hg1).trans m2,(hb.cell (p:=⟨g2,o2+j * 2,none⟩) hg2).trans m3,(hb.cell (p:=⟨g2,o2+j * 2+1,none⟩) hg2).trans m4⟩
   obtain ⟨t,ht⟩:∃ t,l[j].1=t:=⟨_,rfl⟩
   obtain ⟨z,hz⟩:∃ z,l[j].2=z:=⟨_,rfl⟩
   rw [ht,hz] at HS;clear ht hz m1 m2 m3 m4;obtain ⟨r1,r2,r3,r4⟩:=HS.out _ hb;have j0:(0:Int)<=(j:Int):=by omega
   have j1:(j:Int) < (l.length:Int):=by omega
   have hsz:=hb.size;have HBB:=hide hb;clear hb;go_wp2_with fail
   go_region_held3 (fun w'=>w'.cell? ⟨g1,o1+j * 2,none⟩=some (.string t)/\w'.cell? ⟨g1,o1+j * 2+1,none⟩=some (.int .i64 z)/\w'.cell? ⟨g2,o2+j * 2,none⟩=some (.string t)/\w'.cell? ⟨g2,o2+j * 2+1,none⟩=some (.int .i64 z)) (first | exact HS.out _ HBB.out.drew | exact HS.out _ (HBB.out.trans ((zaa B6).mono hsz))) ((go_at_call 149;refine (zlm _ _ _).mono ?_;rintro e w6 ⟨rfl,B6⟩))
   have HB2:=hide (HBB.out.trans ((zaa B6).mono hsz));clear B6;go_wp2;go_roundw
   case rel=>exact ⟨j+1,by omega,by go_num,HB2.out⟩
   case measure=>simp [intOf];omega
  ·have HBB:=hide hb;clear hb;go_wp2;go_ret;exact ⟨rfl,HBB.out⟩
theorem zmt (d:Bool)(va vb:Value)(t:ByteArray)(l:List Sl)(w:World)(ha:RSl w va l)(hb:RSl w vb l)(hl:l.length<=1048576) :
  Calls Tryz.prog 68 #[.agg #[.bool d,va,.string t],.agg #[.bool d,vb,.string t]] w fun e w'=>e=.returned (.bool true)/\Below w.heap.size w w':=by
 have HA:=hide ha;have HB:=hide hb;obtain ⟨a1,c1,rfl⟩:=ha.form;obtain ⟨a2,c2,rfl⟩:=hb.form;clear ha hb;go_enter Tryz.func68,Tryz.ntmps68
 go_wp2_with fail
 refine (eqS_same _ _ l _ ((HA.out.alloc _).alloc _) ((HB.out.alloc _).alloc _) hl).mono ?_;rintro e w1 ⟨rfl,B1⟩;obtain ⟨r0,r1,r2,r3⟩:=(((AtC.new w 74 #[.bool d,.slice a1 l.length c1,.string t]).alloc (.cells #[.bool d,.slice a2 l.length c2,.string t] 74)).over B1).three;obtain ⟨s0,s1,s2,s3⟩:=((AtC.new (w.alloc (.cells #[.bool d,.slice a1 l.length c1,.string t] 74)) 74 #[.bool d,.slice a2 l.length c2,.string t]).over B1).three;simp only [World.size_alloc] at s0 s1 s2 s3;have HB1:=hide B1;clear B1;go_wp2;go_ret;exact ⟨rfl,((((Below.refl _ w).alloc nR _).alloc (by simp) _).trans (HB1.out.mono (by simp;omega)))⟩
namespace Kit
def no1:Sl:=(⟨#[]⟩,0)
def zbq (j:Nat) (xs:List Sl):List Sl:=xs.take j ++ List.replicate (xs.length - j) no1
theorem zcc (j:Nat)(xs:List Sl)(h:j<=xs.length):(zbq j xs).length=xs.length:=by simp [zbq];omega
theorem zii (xs:List Sl):zbq 0 xs=List.replicate xs.length no1:=by simp [zbq]
theorem zjz (xs:List Sl):zbq xs.length xs=xs:=by simp [zbq]
theorem zj0 (j:Nat)(xs:List Sl)(h:j < xs.length):(zbq j xs).set j xs[j]=zbq (j+1) xs:=by
 unfold zbq;rw [List.set_append_right _ _ (by simp;omega),List.take_succ_eq_append_getElem h,List.length_take,Nat.min_eq_left (by omega),Nat.sub_self,show xs.length - j=(xs.length - (j+1))+1 by omega,List.replicate_succ,List.set_cons_zero,List.append_assoc];rfl
theorem made_two (n:Nat):(madeCells #[.string ⟨#[]⟩,.int .i64 0] (n * 2)).toList=sc (List.replicate n no1):=by
 apply List.ext_getElem?;intro j;by_cases hj:j < n * 2
 ·have e:(madeCells #[.string ⟨#[]⟩,.int .i64 0] (n * 2)).toList[j]?=some (#[Value.string ⟨#[]⟩,.int .i64 0][j % 2]!):=by simp [madeCells,hj]
  rw [e];rcases Nat.mod_two_eq_zero_or_one j with h | h
  ·obtain ⟨q,rfl⟩:∃ q,j=q * 2:=⟨j / 2,by omega⟩
   rw [zg1 _ q (by simp;omega),h];simp [no1]
  ·obtain ⟨q,rfl⟩:∃ q,j=q * 2+1:=⟨j / 2,by omega⟩
   rw [zkn _ q (by simp;omega),h];simp [no1]
 ·rw [List.getElem?_eq_none (by simp [madeCells];omega),List.getElem?_eq_none (by rw [zb5];simp;omega)]
end Kit
theorem Tryz.u72:Tryz.prog.underlying 72=some (.slice 100):=by kernel_rfl
theorem Tryz.i100:(Tryz.prog.info? 100).map (fun i=>(i.zero,i.size,i.bytes))=some (some (.agg #[.string ⟨#[]⟩,.int .i64 0]),2,24):=by kernel_rfl
theorem make_nK (n:Nat)(h:n<=1048576)(w:World):(Instr.makeSlice 72 (.int .i64 (n:Int)) (.int .i64 (n:Int))).run Tryz.prog w=.ok (.slice (some ⟨w.heap.size,0,none⟩) n n) (w.alloc (.cells (madeCells #[.string ⟨#[]⟩,.int .i64 0] (n * 2)) 100)):=by
 obtain ⟨i0,hi,hz0,hz1,hz2⟩:=info_parts Tryz.i100;rw [run_make w 72 100 i0 _ Tryz.u72 hi hz0 .i64 .i64 n n (by omega) (by omega) (by rw [hz2];omega) (by omega),hz1];rfl
theorem zmu (t:ByteArray)(z L:Int)(w:World)(h0:0<=L)(hL:L<=1048576)(ht:t.size<=maxLen) :
  Calls Tryz.prog 116 #[.agg #[.string t,.int .i64 z],.int .i64 L] w fun e w'=>∃ r,e=.returned (.int .i64 r)/\(r=-1\/(0<=r/\r<=L/\(t.size:Int)<=L))/\Below w.heap.size w w':=by
 have ht':t.size<=9223372036854775807:=ht;clear ht;by_cases h:L - (t.size:Int) < 0
 ·go_enter Tryz.func116,Tryz.ntmps116
  go_wp2;go_ret;exact ⟨-1,rfl,.inl rfl,by go_grown⟩
 ·go_enter Tryz.func116,Tryz.ntmps116
  go_wp2;go_ret;exact ⟨L - (t.size:Int),rfl,.inr ⟨by omega,by omega,by omega⟩,by go_grown⟩
theorem zmv (t:ByteArray)(z:Int)(w:World) :
  Calls Tryz.prog 122 #[.agg #[.string t,.int .i64 z]] w fun e w'=>e=.returned (.agg #[.string t,.int .i64 z])/\Below w.heap.size w w':=by
 go_enter Tryz.func122,Tryz.ntmps122
 go_wp2;refine bodyPost_ret (v:=.agg #[.string t,.int .i64 z]) (by simp [results,go_sem]) rfl ⟨rfl,by go_grown⟩
theorem toS_any (v:Value)(xs:List Sl)(w:World)(hv:RSl w v xs)(hl:xs.length<=1048576) :
  Calls Tryz.prog 89 #[v] w fun e w'=>∃ u,e=.returned u/\SOwns w' w.heap.size 100 u xs/\Below w.heap.size w w':=by
 obtain ⟨a,c,rfl,-,hc⟩:=hv;have HC:=hide hc;clear hc;have mk:=make_nK xs.length hl;go_enter Tryz.func89,Tryz.ntmps89
 go_wp2;go_loopw [4] (fun i wr=>∃ j:Nat,j<=xs.length/\i=.int .i64 j/\SOwns wr w.heap.size 100 (.slice (some ⟨w.heap.size,0,none⟩) xs.length xs.length) (zbq j xs)/\Below w.heap.size w wr) (fun i _=>xs.length - (intOf i).toNat)
 case atStart =>
  refine ⟨0,Nat.zero_le _,rfl,?_,(Below.refl _ w).alloc nR _⟩;have:=SOwns.lit w w.heap.size 100 (madeCells #[.string ⟨#[]⟩,.int .i64 0] (xs.length * 2)) (zbq 0 xs) (by rw [made_two,zii]) nR (by rw [zcc _ _ (Nat.zero_le _)];unfold maxLen;omega)
  rwa [zcc _ _ (Nat.zero_le _)] at this
 case round =>
  obtain ⟨j,hj,rfl,hown,hb⟩:=hrel;by_cases hlt:j < xs.length
  ·obtain ⟨g,off,rfl,hg,m1,m2⟩:=HC.out j hlt;have q1:=(hb.cell (p:=⟨g,off+j * 2,none⟩) hg).trans m1;have q2:=(hb.cell (p:=⟨g,off+j * 2+1,none⟩) hg).trans m2;have HML:=hide (zcc j xs hj);have CS:=hide (zj0 j xs hlt);obtain ⟨t,ht⟩:∃ t,xs[j].1=t:=⟨_,rfl⟩
   obtain ⟨z,hz⟩:∃ z,xs[j].2=z:=⟨_,rfl⟩
   have e1:xs[j]=(t,z):=by rw [← ht,← hz]
   rw [e1] at CS;rw [ht] at q1;rw [hz] at q2;have HOWN:=hide hown;have HB:=hide hb;have hsz:=hb.size;have hgw:¬ g=w.heap.size:=by omega
   have j0:(0:Int)<=(j:Int):=by omega
   have j1:(j:Int) < (xs.length:Int):=by omega
   clear hown hb m1 m2 ht hz e1 mk;go_wp2_with (go_at_call 122;refine (zmv _ _ _).mono ?_;rintro e w1 ⟨rfl,B1⟩;have O0:SOwns w1 w.heap.size 100 (.slice (some ⟨w.heap.size,0,none⟩) (zbq j xs).length xs.length) (zbq j xs):=by { rw [HML.out];exact HOWN.out.below B1 nR };obtain ⟨g3,c3,e3,k1,k2,k3,k4,k5,-⟩:=O0.at j (by rw [HML.out];exact hlt);simp only [Value.slice.injEq,Option.some.injEq,Addr.mk.injEq] at e3;obtain ⟨⟨rfl,-,-⟩,-,rfl⟩:=e3;have O2:=O0.set_both j (by rw [HML.out];exact hlt) t z;rw [HML.out,CS.out] at O2;have HO:=hide (And.intro O2.1 (((HB.out.trans (B1.mono hsz)).setCell (p:=⟨w.heap.size,j * 2,none⟩) nR (.string t)).setCell (p:=⟨w.heap.size,j * 2+1,none⟩) nR (.int .i64 z)));clear O0 O2 B1)
   go_roundw
   case rel=>exact ⟨j+1,by omega,by go_num,HO.out.1,HO.out.2⟩
   case measure=>simp [intOf];omega
  ·have hjl:j=xs.length:=by omega
   have HR:=hide (And.intro hown hb);have HJ:=hide hjl;clear hown hb hjl mk;go_wp2;go_ret;exact ⟨_,rfl,by have:=HR.out.1;rwa [HJ.out,zjz] at this,HR.out.2⟩
theorem toB_anyK (d:Bool)(v:Value)(t:ByteArray)(xs:List Sl)(w:World)(hv:RSl w v xs)(hl:xs.length<=1048576) :
  Calls Tryz.prog 47 #[.agg #[.bool d,v,.string t]] w fun e w'=>∃ u,e=.returned (.agg #[.bool d,u,.string t])/\SOwns w' w.heap.size 100 u xs/\Below w.heap.size w w':=by
 have HV:=hide hv;obtain ⟨a,c,rfl,-⟩:=hv;go_enter Tryz.func47,Tryz.ntmps47
 go_wp2_with fail
 refine (toS_any _ xs _ (((HV.out.alloc _).alloc _).alloc _) hl).mono ?_;rintro e w1 ⟨u,rfl,O1,B1⟩;obtain ⟨a1,c1,rfl⟩:=O1.rsl.form;have K0:AtC w1 (w.heap.size+1) 74 #[.bool false,.slice none 0 0,.string ⟨#[]⟩]:=by
  have:=((AtC.new (w.alloc (Obj.cells #[.bool d,.slice a xs.length c,.string t] 60)) 74 #[.bool false,.slice none 0 0,.string ⟨#[]⟩]).alloc (Obj.cells #[.bool d,.slice none 0 0,.string ⟨#[]⟩] 74)).over B1;simpa using this
 have K1:AtC w1 (w.heap.size+1+1) 74 #[.bool d,.slice none 0 0,.string ⟨#[]⟩]:=by
  have:=(AtC.new ((w.alloc (Obj.cells #[.bool d,.slice a xs.length c,.string t] 60)).alloc (Obj.cells #[.bool false,.slice none 0 0,.string ⟨#[]⟩] 74)) 74 #[.bool d,.slice none 0 0,.string ⟨#[]⟩]).over B1;simpa using this
 have K2:AtC w1 w.heap.size 60 #[.bool d,.slice a xs.length c,.string t]:=(((AtC.new w 60 #[.bool d,.slice a xs.length c,.string t]).alloc _).alloc _).over B1;obtain ⟨q0,q1,q2,m0⟩:=K0.three;obtain ⟨z0,z1,z2⟩:=K0.frz;obtain ⟨d0,d1,d2,m1⟩:=K1.three;obtain ⟨f0,f1,f2⟩:=K1.frz;obtain ⟨g0,g1,g2,m2⟩:=K2.three;have B2:Below w.heap.size w w1:=((((Below.refl _ w).alloc nR _).alloc (by simp) _).alloc (by simp;omega) _).trans (B1.mono (by simp;omega));have O2:SOwns w1 (w.heap.size+1+1+1) 100 (.slice a1 xs.length c1) xs:=O1.base_le (by simp);have HO:=hide O2;have HB:=hide B2;clear O1 O2 B1 B2 K0 K1 K2;go_wp2;refine bodyPost_ret (v:=.agg #[.bool d,.slice a1 xs.length c1,.string t]) (by simp [results,go_sem,q0,q1,q2]) rfl ⟨_,rfl,?_,?_⟩
 ·exact (((((HO.out.setCell_low (by omega) _).setCell_low (by omega) _).setCell_low (by omega) _).setCell_low (by omega) _).setCell_low (by omega) _).base_le (by omega)
 ·exact (((((HB.out.setCell (by simp;omega) _).setCell (by simp;omega) _).setCell (by simp) _).setCell (by simp) _).setCell (by simp) _)
namespace Kit
theorem R3.ino {w:World}{v:Value}{xs:List Ino}(h:R3 KI w v xs):∃ a cap,v=.slice a xs.length cap/\xs.length<=cap/\∀ (j:Nat) (h:j < xs.length),∃ g off p,a=some ⟨g,off,none⟩/\g < w.heap.size/\w.cell? ⟨g,off+j * 3,none⟩=some (.int .i64 xs[j].1)/\w.cell? ⟨g,off+j * 3+1,none⟩=some (.int .i64 xs[j].2.1)/\w.cell? ⟨g,off+j * 3+2,none⟩=some p/\RInts w p xs[j].2.2:=by
 obtain ⟨a,cap,e,hc,h⟩:=h;refine ⟨a,cap,e,hc,fun j hj=>?_⟩;obtain ⟨g,off,t,e1,hg,c0,c1,c2,r0,r1,r2⟩:=h j hj;exact ⟨g,off,t.2.2,e1,hg,by rw [c0,r0],by rw [c1,r1],c2,r2⟩
theorem R3.blk {w:World}{v:Value}{xs:List Blk}(h:R3 KB w v xs):∃ a cap,v=.slice a xs.length cap/\xs.length<=cap/\∀ (j:Nat) (h:j < xs.length),∃ g off p,a=some ⟨g,off,none⟩/\g < w.heap.size/\w.cell? ⟨g,off+j * 3,none⟩=some (.bool xs[j].1)/\w.cell? ⟨g,off+j * 3+1,none⟩=some p/\w.cell? ⟨g,off+j * 3+2,none⟩=some (.string xs[j].2.2)/\RSl w p xs[j].2.1:=by
 obtain ⟨a,cap,e,hc,h⟩:=h;refine ⟨a,cap,e,hc,fun j hj=>?_⟩;obtain ⟨g,off,t,e1,hg,c0,c1,c2,r0,r1,r2⟩:=h j hj;exact ⟨g,off,t.2.1,e1,hg,by rw [c0,r0],c1,by rw [c2,r2],r1⟩
def bigB (n:Nat) (b:Blk):Prop:=b.2.1.length<=n/\(∀ (j:Nat) (h:j < b.2.1.length),b.2.1[j].1.size<=n)/\b.2.2.size<=n
structure Big (n:Nat) (xs ys:List Bool) (is:List Ino) (bs:List Blk):Prop where
 x:xs.length<=n
 y:ys.length<=n
 i:is.length<=n
 p:∀ (j:Nat) (h:j < is.length),is[j].2.2.length<=n
 b:bs.length<=n
 s:∀ (j:Nat) (h:j < bs.length),bigB n bs[j]
end Kit
theorem szBits_L (a1 a2:Option Addr)(n m c1 c2:Nat)(L:Int)(w:World)(h0:0<=L)(hL:L<=1048576)(h1:n<=maxLen)(h2:m<=maxLen) :
  Calls Tryz.prog 9 #[.agg #[.slice a1 n c1,.slice a2 m c2],.int .i64 L] w fun e w'=>∃ r,e=.returned (.int .i64 r)/\(r=-1\/(0<=r/\r<=L/\n<=1048576/\m<=1048576))/\Below w.heap.size w w':=by
 have h3:n<=9223372036854775807:=h1;have h4:m<=9223372036854775807:=h2;clear h1 h2;by_cases hn:L - (n:Int) < 0
 ·go_enter Tryz.func9,Tryz.ntmps9
  go_wp2;go_ret;exact ⟨_,rfl,.inl rfl,by go_grown⟩
 ·by_cases hm:L - (n:Int) - (m:Int) < 0
  ·go_enter Tryz.func9,Tryz.ntmps9
   go_wp2;go_ret;exact ⟨_,rfl,.inl rfl,by go_grown⟩
  ·go_enter Tryz.func9,Tryz.ntmps9
   go_wp2;go_ret;exact ⟨_,rfl,.inr ⟨by omega,by omega,by omega,by omega⟩,by go_grown⟩
theorem szIno_L (k l:Int)(a:Option Addr)(n c:Nat)(L:Int)(w:World)(h0:0<=L)(hL:L<=1048576)(h1:n<=maxLen) :
  Calls Tryz.prog 29 #[.agg #[.int .i64 k,.int .i64 l,.slice a n c],.int .i64 L] w fun e w'=>∃ r,e=.returned (.int .i64 r)/\(r=-1\/(0<=r/\r<=L/\n<=1048576))/\Below w.heap.size w w':=by
 have h3:n<=9223372036854775807:=h1;clear h1;by_cases hn:L - (n:Int) < 0
 ·go_enter Tryz.func29,Tryz.ntmps29
  go_wp2;go_ret;exact ⟨_,rfl,.inl rfl,by go_grown⟩
 ·go_enter Tryz.func29,Tryz.ntmps29
  go_wp2;go_ret;exact ⟨_,rfl,.inr ⟨by omega,by omega,by omega⟩,by go_grown⟩
theorem szInoS_L (v:Value)(xs:List Ino)(L0:Int)(w:World)(hv:R3 KI w v xs)(h0:0<=L0)(h1:L0<=1048576)(hlen:xs.length<=maxLen)(hbig:∀ (j:Nat) (h:j < xs.length),xs[j].2.2.length<=maxLen) :
  Calls Tryz.prog 10 #[v,.int .i64 L0] w fun e w'=>∃ r,e=.returned (.int .i64 r)/\(r=-1\/(0<=r/\r<=L0/\xs.length<=1048576/\∀ (j:Nat) (h:j < xs.length),xs[j].2.2.length<=1048576))/\Below w.heap.size w w':=by
 obtain ⟨a,c,rfl,-,hc⟩:=hv.ino;have HC:=hide hc;have HG:=hide hbig;have hl':xs.length<=9223372036854775807:=hlen;clear hc hbig hlen hv;by_cases hn:L0 - (xs.length:Int) < 0
 ·go_enter Tryz.func10,Tryz.ntmps10
  go_wp2;go_ret;exact ⟨-1,rfl,.inl rfl,Below.refl _ _⟩
 ·have hn2:decide (L0 - (xs.length:Int) < 0)=false:=by simp;omega
  go_enter Tryz.func10,Tryz.ntmps10
  go_wp2;go_loopw [1,5] (fun x i wr=>∃ (j:Nat) (L:Int),j<=xs.length/\i=.int .i64 j/\x=.int .i64 L/\0<=L/\L<=L0/\Hid (∀ (k:Nat) (h:k < xs.length),k < j->xs[k].2.2.length<=1048576)/\Below w.heap.size w wr) (fun _ i _=>xs.length - (intOf i).toNat)
  case atStart=>exact ⟨0,_,Nat.zero_le _,rfl,rfl,by omega,by omega,fun _ _ h=>absurd h (Nat.not_lt_zero _),Below.refl _ _⟩
  case round =>
   obtain ⟨j,L,hj,rfl,rfl,hL0,hL1,HS,hb⟩:=hrel;by_cases hlt:j < xs.length
   ·obtain ⟨g,off,p,rfl,hg,m1,m2,m3,hp⟩:=HC.out j hlt;obtain ⟨pa,pc,rfl⟩:=hp.form;have q1:=(hb.cell (p:=⟨g,off+j * 3,none⟩) hg).trans m1;have q2:=(hb.cell (p:=⟨g,off+j * 3+1,none⟩) hg).trans m2;have q3:=(hb.cell (p:=⟨g,off+j * 3+2,none⟩) hg).trans m3;have hgt:=HG.out j hlt;obtain ⟨n,hn⟩:∃ n,xs[j].2.2.length=n:=⟨_,rfl⟩
    obtain ⟨y,hy⟩:∃ y,xs[j].1=y:=⟨_,rfl⟩
    obtain ⟨z,hz⟩:∃ z,xs[j].2.1=z:=⟨_,rfl⟩
    rw [hn] at q3 hgt;rw [hy] at q1;rw [hz] at q2;have HT:=hide hn;have HGT:=hide hgt;have HB:=hide hb;have hsz:=hb.size;have j0:(0:Int)<=(j:Int):=by omega
    have j1:(j:Int) < (xs.length:Int):=by omega
    clear m1 m2 m3 hy hz hb hgt hp hn;go_wp2_with (go_at_call 29;refine (szIno_L _ _ _ _ _ _ _ hL0 (by omega) HGT.out).mono ?_;rintro e w1 ⟨r,rfl,hr,B1⟩;have HB1:=hide (HB.out.trans (B1.mono hsz));have HRR:=hide hr;have hr1:-1<=r:=by { rcases hr with h | h<;>omega };clear B1 hr)
    ·go_ret;exact ⟨-1,rfl,.inl rfl,HB1.out⟩
    ·have hr0:0<=r:=by omega
     have hrr:r<=L/\n<=1048576:=by rcases HRR.out with h | h<;>omega
     go_roundw
     case rel =>
      refine ⟨j+1,r,by omega,by go_num,rfl,hr0,by omega,fun k hk hkj=>?_,HB1.out⟩;by_cases hkk:k=j
      ·subst hkk;rw [HT.out];omega
      ·exact HS.out k hk (by omega)
     case measure=>simp [intOf];omega
   ·have HB:=hide hb;clear hb;go_wp2;go_ret;exact ⟨L,rfl,.inr ⟨hL0,hL1,by omega,fun k hk=>HS.out k hk (by omega)⟩,HB.out⟩
theorem szS_L (v:Value)(xs:List Sl)(L0:Int)(w:World)(hv:RSl w v xs)(h0:0<=L0)(h1:L0<=1048576)(hlen:xs.length<=maxLen)(hbig:∀ (j:Nat) (h:j < xs.length),xs[j].1.size<=maxLen) :
  Calls Tryz.prog 70 #[v,.int .i64 L0] w fun e w'=>∃ r,e=.returned (.int .i64 r)/\(r=-1\/(0<=r/\r<=L0/\xs.length<=1048576/\∀ (j:Nat) (h:j < xs.length),xs[j].1.size<=1048576))/\Below w.heap.size w w':=by
 obtain ⟨a,c,rfl,-,hc⟩:=hv;have HC:=hide hc;have HG:=hide hbig;have hl':xs.length<=9223372036854775807:=hlen;clear hc hbig hlen;by_cases hn:L0 - (xs.length:Int) < 0
 ·go_enter Tryz.func70,Tryz.ntmps70
  go_wp2;go_ret;exact ⟨-1,rfl,.inl rfl,Below.refl _ _⟩
 ·have hn2:decide (L0 - (xs.length:Int) < 0)=false:=by simp;omega
  go_enter Tryz.func70,Tryz.ntmps70
  go_wp2;go_loopw [1,5] (fun x i wr=>∃ (j:Nat) (L:Int),j<=xs.length/\i=.int .i64 j/\x=.int .i64 L/\0<=L/\L<=L0/\Hid (∀ (k:Nat) (h:k < xs.length),k < j->xs[k].1.size<=1048576)/\Below w.heap.size w wr) (fun _ i _=>xs.length - (intOf i).toNat)
  case atStart=>exact ⟨0,_,Nat.zero_le _,rfl,rfl,by omega,by omega,fun _ _ h=>absurd h (Nat.not_lt_zero _),Below.refl _ _⟩
  case round =>
   obtain ⟨j,L,hj,rfl,rfl,hL0,hL1,HS,hb⟩:=hrel;by_cases hlt:j < xs.length
   ·obtain ⟨g,off,rfl,hg,m1,m2⟩:=HC.out j hlt;have q1:=(hb.cell (p:=⟨g,off+j * 2,none⟩) hg).trans m1;have q2:=(hb.cell (p:=⟨g,off+j * 2+1,none⟩) hg).trans m2;have hgt:=HG.out j hlt;obtain ⟨t,ht⟩:∃ t,xs[j].1=t:=⟨_,rfl⟩
    obtain ⟨z,hz⟩:∃ z,xs[j].2=z:=⟨_,rfl⟩
    rw [ht] at q1 hgt;rw [hz] at q2;have HT:=hide ht;have HGT:=hide hgt;have HB:=hide hb;have hsz:=hb.size;have j0:(0:Int)<=(j:Int):=by omega
    have j1:(j:Int) < (xs.length:Int):=by omega
    clear m1 m2 ht hz hb hgt;go_wp2_with (go_at_call 116;refine (zmu _ _ _ _ hL0 (by omega) HGT.out).mono ?_;rintro e w1 ⟨r,rfl,hr,B1⟩;have HB1:=hide (HB.out.trans (B1.mono hsz));have HRR:=hide hr;have hr1:-1<=r:=by { rcases hr with h | h<;>omega };clear B1 hr)
    ·go_ret;exact ⟨-1,rfl,.inl rfl,HB1.out⟩
    ·have hr0:0<=r:=by omega
     have hrr:r<=L/\(t.size:Int)<=L:=by rcases HRR.out with h | h<;>omega
     go_roundw
     case rel =>
      refine ⟨j+1,r,by omega,by go_num,rfl,hr0,by omega,fun k hk hkj=>?_,HB1.out⟩;by_cases hkk:k=j
      ·subst hkk;rw [HT.out];omega
      ·exact HS.out k hk (by omega)
     case measure=>simp [intOf];omega
   ·have HB:=hide hb;clear hb;go_wp2;go_ret;exact ⟨L,rfl,.inr ⟨hL0,hL1,by omega,fun k hk=>HS.out k hk (by omega)⟩,HB.out⟩
theorem szBlk_L (d:Bool)(v:Value)(t:ByteArray)(xs:List Sl)(L0:Int)(w:World)(hv:RSl w v xs)(h0:0<=L0)(h1:L0<=1048576)(hB:bigB maxLen (d,xs,t)) :
  Calls Tryz.prog 30 #[.agg #[.bool d,v,.string t],.int .i64 L0] w fun e w'=>∃ r,e=.returned (.int .i64 r)/\(r=-1\/(0<=r/\r<=L0/\bigB 1048576 (d,xs,t)))/\Below w.heap.size w w':=by
 obtain ⟨hlen,hbig,ht⟩:=hB;have HV:=hide hv;have HL:=hide hlen;have HG:=hide hbig;obtain ⟨a,c,rfl,-⟩:=hv;have ht':t.size<=9223372036854775807:=ht;clear ht hlen hbig;go_enter Tryz.func30,Tryz.ntmps30
 go_wp2_with fail
 refine (szS_L _ xs _ _ (HV.out.alloc _) h0 h1 HL.out HG.out).mono ?_;rintro e w1 ⟨r,rfl,hr,B1⟩;obtain ⟨r0,r1,r2,r3⟩:=((AtC.new w 60 #[.bool d,.slice a xs.length c,.string t]).over B1).three;have HB:=hide (((Below.refl _ w).alloc nR (.cells #[.bool d,.slice a xs.length c,.string t] 60)).trans (B1.mono (by simp)));have HR:=hide hr;have hr1:-1<=r:=by rcases hr with h | h<;>omega
 have hr2:r<=1048576:=by rcases hr with h | h<;>omega
 clear hr B1;by_cases hneg:r < 0
 ·go_wp2;go_ret;exact ⟨-1,rfl,.inl rfl,HB.out⟩
 ·by_cases h:r - (t.size:Int) < 0
  ·go_wp2;go_ret;exact ⟨-1,rfl,.inl rfl,HB.out⟩
  ·go_wp2;go_ret;have:=HR.out.resolve_left (by omega);exact ⟨r - (t.size:Int),rfl,.inr ⟨by omega,by omega,this.2.2.1,this.2.2.2,show t.size<=1048576 by omega⟩,HB.out⟩
theorem szBlkS_L (v:Value)(xs:List Blk)(L0:Int)(w:World)(hv:R3 KB w v xs)(h0:0<=L0)(h1:L0<=1048576)(hlen:xs.length<=maxLen)(hbig:∀ (j:Nat) (h:j < xs.length),bigB maxLen xs[j]) :
  Calls Tryz.prog 11 #[v,.int .i64 L0] w fun e w'=>∃ r,e=.returned (.int .i64 r)/\(r=-1\/(0<=r/\r<=L0/\xs.length<=1048576/\∀ (j:Nat) (h:j < xs.length),bigB 1048576 xs[j]))/\Below w.heap.size w w':=by
 obtain ⟨a,c,rfl,-,hc⟩:=hv.blk;have HC:=hide hc;have HG:=hide hbig;have hl':xs.length<=9223372036854775807:=hlen;clear hc hbig hlen hv;by_cases hn:L0 - (xs.length:Int) < 0
 ·go_enter Tryz.func11,Tryz.ntmps11
  go_wp2;go_ret;exact ⟨-1,rfl,.inl rfl,Below.refl _ _⟩
 ·have hn2:decide (L0 - (xs.length:Int) < 0)=false:=by simp;omega
  go_enter Tryz.func11,Tryz.ntmps11
  go_wp2;go_loopw [1,5] (fun x i wr=>∃ (j:Nat) (L:Int),j<=xs.length/\i=.int .i64 j/\x=.int .i64 L/\0<=L/\L<=L0/\Hid (∀ (k:Nat) (h:k < xs.length),k < j->bigB 1048576 xs[k])/\Below w.heap.size w wr) (fun _ i _=>xs.length - (intOf i).toNat)
  case atStart=>exact ⟨0,_,Nat.zero_le _,rfl,rfl,by omega,by omega,fun _ _ h=>absurd h (Nat.not_lt_zero _),Below.refl _ _⟩
  case round =>
   obtain ⟨j,L,hj,rfl,rfl,hL0,hL1,HS,hb⟩:=hrel;by_cases hlt:j < xs.length
   ·obtain ⟨g,off,p,rfl,hg,m1,m2,m3,hp⟩:=HC.out j hlt;have q1:=(hb.cell (p:=⟨g,off+j * 3,none⟩) hg).trans m1;have q2:=(hb.cell (p:=⟨g,off+j * 3+1,none⟩) hg).trans m2;have q3:=(hb.cell (p:=⟨g,off+j * 3+2,none⟩) hg).trans m3;have hp2:=hp.below hb nR;have hgt:=HG.out j hlt;obtain ⟨y,hy⟩:∃ y,xs[j].1=y:=⟨_,rfl⟩
    obtain ⟨s,hs⟩:∃ s,xs[j].2.1=s:=⟨_,rfl⟩
    obtain ⟨z,hz⟩:∃ z,xs[j].2.2=z:=⟨_,rfl⟩
    have hx:xs[j]=(y,s,z):=by rw [← hy,← hs,← hz]
    rw [hy] at q1;rw [hz] at q3;rw [hs] at hp2;rw [hx] at hgt;have HT:=hide hx;have HGT:=hide hgt;have HB:=hide hb;have HP:=hide hp2;have hsz:=hb.size;have j0:(0:Int)<=(j:Int):=by omega
    have j1:(j:Int) < (xs.length:Int):=by omega
    clear m1 m2 m3 hy hz hs hb hgt hp hp2 hx;go_wp2_with (go_at_call 30;refine (szBlk_L _ _ _ s _ _ HP.out hL0 (by omega) HGT.out).mono ?_;rintro e w1 ⟨r,rfl,hr,B1⟩;have HB1:=hide (HB.out.trans (B1.mono hsz));have HRR:=hide hr;have hr1:-1<=r:=by { rcases hr with h | h<;>omega };clear B1 hr)
    ·go_ret;exact ⟨-1,rfl,.inl rfl,HB1.out⟩
    ·have hr0:0<=r:=by omega
     have hrr:=HRR.out.resolve_left (by omega);have hrL:=hrr.2.1;have HRB:=hide hrr.2.2;clear hrr;go_roundw
     case rel =>
      refine ⟨j+1,r,by omega,by go_num,rfl,hr0,by omega,fun k hk hkj=>?_,HB1.out⟩;by_cases hkk:k=j
      ·subst hkk;rw [HT.out];exact HRB.out
      ·exact HS.out k hk (by omega)
     case measure=>simp [intOf];omega
   ·have HB:=hide hb;clear hb;go_wp2;go_ret;exact ⟨L,rfl,.inr ⟨hL0,hL1,by omega,fun k hk=>HS.out k hk (by omega)⟩,HB.out⟩
theorem szDisk_L (u v iv bv:Value)(xs ys:List Bool)(is:List Ino)(bs:List Blk)(L0:Int)(w:World)(h1:RFl w u xs)(h2:RFl w v ys)(h3:R3 KI w iv is)(h4:R3 KB w bv bs)(hL:0<=L0)(hL1:L0<=1048576)(hB:Big maxLen xs ys is bs) :
  Calls Tryz.prog 4 #[.agg #[u,v,iv,bv],.int .i64 L0] w fun e w'=>∃ r,e=.returned (.int .i64 r)/\(r=-1\/(0<=r/\r<=L0/\Big 1048576 xs ys is bs))/\Below w.heap.size w w':=by
 obtain ⟨a1,c1,rfl⟩:=h1.form;obtain ⟨a2,c2,rfl⟩:=h2.form;obtain ⟨a3,c3,rfl⟩:=h3.form;obtain ⟨a4,c4,rfl⟩:=h4.form;have H3:=hide h3;have H4:=hide h4;have HBG:=hide hB;clear h1 h2 h3 h4 hB;go_enter Tryz.func4,Tryz.ntmps4
 go_wp2_with fail
 refine (szBits_L _ _ _ _ _ _ _ _ hL hL1 HBG.out.x HBG.out.y).mono ?_;rintro e w1 ⟨r,rfl,hr,B1⟩;have K0:=(AtC.new w 28 #[.slice a1 xs.length c1,.slice a2 ys.length c2,.slice a3 is.length c3,.slice a4 bs.length c4]).over B1;have r2:=K0.cell 2;have r3:=K0.cell 3;have r4:=K0.lt;have HB1:=hide (((Below.refl _ w).alloc nR (.cells #[.slice a1 xs.length c1,.slice a2 ys.length c2,.slice a3 is.length c3,.slice a4 bs.length c4] 28)).trans (B1.mono (by simp)));have HK:=hide K0;have HR:=hide hr;have hr1:-1<=r:=by rcases hr with h | h<;>omega
 have hr2:r<=1048576:=by rcases hr with h | h<;>omega
 clear hr B1 K0;by_cases hneg:r < 0
 ·go_wp2;go_ret;exact ⟨-1,rfl,.inl rfl,HB1.out⟩
 ·have hrr:=HR.out.resolve_left (by omega);have hrL:=hrr.2.1;have HXY:=hide hrr.2.2;clear hrr;simp only [List.getElem?_toArray,List.getElem?_cons_succ,List.getElem?_cons_zero] at r2 r3;go_wp2_with fail
  refine (szInoS_L _ is _ _ (H3.out.below HB1.out nR) (by omega) hr2 HBG.out.i HBG.out.p).mono ?_;rintro e w2 ⟨r',rfl,hr,B2⟩;have K1:=HK.out.over B2;have r5:=K1.cell 3;have r6:=K1.lt;have HB2:=hide (HB1.out.trans (B2.mono HB1.out.size));have HR2:=hide hr;have hr3:-1<=r':=by rcases hr with h | h<;>omega
  have hr4:r'<=1048576:=by rcases hr with h | h<;>omega
  clear hr B2 K1;by_cases hneg2:r' < 0
  ·go_wp2;go_ret;exact ⟨-1,rfl,.inl rfl,HB2.out⟩
  ·have hrr:=HR2.out.resolve_left (by omega);have hrL2:=hrr.2.1;have HI:=hide hrr.2.2;clear hrr;simp only [List.getElem?_toArray,List.getElem?_cons_succ,List.getElem?_cons_zero] at r5;go_wp2_with fail
   refine (szBlkS_L _ bs _ _ (H4.out.below HB2.out nR) (by omega) hr4 HBG.out.b HBG.out.s).mono ?_;rintro e w3 ⟨r7,rfl,hr,B3⟩;have HB3:=hide (HB2.out.trans (B3.mono HB2.out.size));have HR3:=hide hr;have hr7:-1<=r7:=by rcases hr with h | h<;>omega
   have hr8:r7<=1048576:=by rcases hr with h | h<;>omega
   clear hr B3;by_cases hneg3:r7 < 0
   ·go_wp2;go_ret;exact ⟨-1,rfl,.inl rfl,HB3.out⟩
   ·go_wp2;go_ret;have hrr:=HR3.out.resolve_left (by omega);exact ⟨r7,rfl,.inr ⟨by omega,by omega,⟨HXY.out.1,HXY.out.2,HI.out.1,HI.out.2,hrr.2.2.1,hrr.2.2.2⟩⟩,HB3.out⟩
namespace Kit
theorem zea (a b c:Value)(n:Nat):(madeCells #[a,b,c] (n * 3)).toList=f3 (List.replicate n (a,b,c)):=by
 apply List.ext_getElem?;intro j;by_cases hj:j < n * 3
 ·have e:(madeCells #[a,b,c] (n * 3)).toList[j]?=some (#[a,b,c][j % 3]!):=by simp [madeCells,hj]
  rw [e];obtain ⟨q,hq⟩:∃ q,q=j / 3:=⟨_,rfl⟩
  have hql:q < (List.replicate n (a,b,c)).length:=by simp;omega
  have k:=f3_at (List.replicate n (a,b,c)) q hql;have hm:j % 3=0\/j % 3=1\/j % 3=2:=by omega
  rcases hm with h | h | h
  ·rw [show j=q * 3 by omega,k.1,show q * 3 % 3=0 by omega];simp
  ·rw [show j=q * 3+1 by omega,k.2.1,show (q * 3+1) % 3=1 by omega];simp
  ·rw [show j=q * 3+2 by omega,k.2.2,show (q * 3+2) % 3=2 by omega];simp
 ·rw [List.getElem?_eq_none (by simp [madeCells];omega),List.getElem?_eq_none (by rw [zcw];simp;omega)]
def cpy {α:Type} (z:α) (j:Nat) (xs:List α):List α:=xs.take j ++ List.replicate (xs.length - j) z
theorem zf8 {α:Type}(z:α)(j:Nat)(xs:List α)(h:j<=xs.length):(cpy z j xs).length=xs.length:=by simp [cpy];omega
theorem zkp {α:Type}(z:α)(xs:List α):cpy z 0 xs=List.replicate xs.length z:=by simp [cpy]
theorem zmw {α:Type}(z:α)(xs:List α):cpy z xs.length xs=xs:=by simp [cpy]
theorem zmx {α:Type}(z:α)(j:Nat)(xs:List α)(h:j < xs.length):(cpy z j xs).set j xs[j]=cpy z (j+1) xs:=by
 have hlen:(xs.take j).length=j:=by simp;omega
 unfold cpy;rw [List.set_append_right _ _ (by omega),hlen,Nat.sub_self,show xs.length - j=(xs.length - (j+1))+1 by omega,List.replicate_succ,List.set_cons_zero,
  List.append_cons,List.take_append_getElem h]
namespace GO
variable {α : Type} {K : Kd α} {w w1 w' : World} {S S' : Nat -> Prop} {v : Value} {ts : List V3} {xs : List α}
theorem bound (h:GO K w S v ts xs):GO K w (fun k=>S k/\k < w.heap.size) v ts xs :=
 ⟨h.len,h.row,h.inn,h.sep,h.out,fun k e=>⟨h.so k e,h.row.lt k e⟩,fun j hj k e=>⟨h.si j hj k e,K.lt (h.inn j hj (by rw [← h.len];exact hj)) k e⟩⟩
theorem setCell_other (h:GO K w S v ts xs){b j:Nat}(hb:¬ S b)(x:Value):GO K (w.setCell ⟨b,j,none⟩ x) S v ts xs :=
 h.of_heap fun k hs _=>heap_setCell_other w ⟨b,j,none⟩ k x (fun e=>hb (by simp at e;subst e;exact hs))
theorem put (h:GO K w S v ts xs){g n cap:Nat}(hv:v=.slice (some ⟨g,0,none⟩) n cap)(j:Nat)(hj:j < ts.length)(t':V3)(x':α)(hb:Below w.heap.size w w1)(hO:K.O w1 t' x')
  (hn:∀ k,(K.p t').ownBlock=some k->w.heap.size<=k) (hs:∀ k,S k->S' k) (hs2:∀ k,w.heap.size<=k->S' k) :
  GO K (((w1.setCell ⟨g,j * 3,none⟩ t'.1).setCell ⟨g,j * 3+1,none⟩ t'.2.1).setCell ⟨g,j * 3+2,none⟩ t'.2.2) S' v (ts.set j t') (xs.set j x'):=by
 have hg:g < w.heap.size:=h.row.lt g (by rw [hv];rfl);have r1:TOwns w1 K.T v ts:=h.row.of_heap fun k hk=>hb.block k (h.row.lt k hk);have hlen:n=ts.length:=by
  obtain ⟨a,c,e,_⟩:=h.row.form;rw [hv] at e;simp only [Value.slice.injEq] at e;exact e.2.1
 have hoth:∀ k,k≠g->(((w1.setCell ⟨g,j * 3,none⟩ t'.1).setCell ⟨g,j * 3+1,none⟩ t'.2.1).setCell ⟨g,j * 3+2,none⟩ t'.2.2).heap[k]?=w1.heap[k]?:=fun k hk =>
  ((heap_setCell_other _ ⟨g,j * 3+2,none⟩ k _ (by simpa using hk)).trans (heap_setCell_other _ ⟨g,j * 3+1,none⟩ k _ (by simpa using hk))).trans (heap_setCell_other _ ⟨g,j * 3,none⟩ k _ (by simpa using hk))
 subst hlen;subst hv;refine h.turn j hj t' x' ?_ (K.heap hO fun k hk=>hoth k (by have:=hn k hk;omega)) (fun k hk h1 _=>(hoth k (fun e=>h1 (by rw [e];rfl))).trans (hb.block k hk)) (fun k hk=>.inr (hn k hk)) hs (fun k hk=>hs2 k (hn k hk));exact r1.set j hj _ _ _
theorem made (w:World)(z:V3)(x:α)(n:Nat)(hm:n<=maxLen)(cs:Array Value)(hc:cs.toList=f3 (List.replicate n z))(hO:∀ w,K.O w z x)(hz:(K.p z).ownBlock=none) :
  GO K (w.alloc (.cells cs K.T)) (fun k=>w.heap.size<=k) (.slice (some ⟨w.heap.size,0,none⟩) n n) (List.replicate n z) (List.replicate n x):=by
 refine ⟨by simp,?_,fun j hj hj'=>?_,fun i j hi hj _ k e=>?_,fun j hj k e=>?_,fun k e=>?_,fun j hj k e=>?_⟩
 ·have:=TOwns.lit w K.T cs (List.replicate n z) hc (by simpa using hm);simpa using this
 ·simp only [List.getElem_replicate];exact hO _
 ·simp only [List.getElem_replicate] at e;rw [hz] at e;cases e
 ·simp only [List.getElem_replicate] at e;rw [hz] at e;cases e
 ·simp only [Value.ownBlock,Option.some.injEq] at e;omega
 ·simp only [List.getElem_replicate] at e;rw [hz] at e;cases e
end GO
def zI:Ino:=(0,0,[])
def zB:Blk:=(false,[],⟨#[]⟩)
def zI3:V3:=(.int .i64 0,.int .i64 0,.slice none 0 0)
def zB3:V3:=(.bool false,.slice none 0 0,.string ⟨#[]⟩)
theorem zI_own (w:World):KI.O w zI3 zI:=⟨rfl,rfl,ROwns.nil _ _ _⟩
theorem zB_own (w:World):KB.O w zB3 zB:=⟨rfl,SOwns.nil _ _ _,rfl⟩
structure DR (w:World) (u v iv bv:Value) (xs ys:List Bool) (is:List Ino) (bs:List Blk):Prop where
 a:RFl w u xs
 b:RFl w v ys
 i:R3 KI w iv is
 k:R3 KB w bv bs
namespace DR
variable {w w' : World} {u v iv bv : Value} {xs ys : List Bool} {is : List Ino} {bs : List Blk}
theorem below {B:Nat}(h:DR w u v iv bv xs ys is bs)(hb:Below B w w')(hB:w.heap.size<=B):DR w' u v iv bv xs ys is bs:=⟨h.a.below hb hB,h.b.below hb hB,h.i.below hb hB,h.k.below hb hB⟩
theorem alloc (h:DR w u v iv bv xs ys is bs)(o:Obj):DR (w.alloc o) u v iv bv xs ys is bs:=h.below ((Below.refl _ w).alloc nR o) nR
theorem drew (h:DR w u v iv bv xs ys is bs):DR w.drew u v iv bv xs ys is bs:=h.below (Below.refl w.heap.size w).drew nR
theorem form (h:DR w u v iv bv xs ys is bs):∃ a1 c1 a2 c2 a3 c3 a4 c4,u=.slice a1 xs.length c1/\v=.slice a2 ys.length c2/\iv=.slice a3 is.length c3/\bv=.slice a4 bs.length c4:=by
 obtain ⟨a1,c1,e1⟩:=h.a.form;obtain ⟨a2,c2,e2⟩:=h.b.form;obtain ⟨a3,c3,e3⟩:=h.i.form;obtain ⟨a4,c4,e4⟩:=h.k.form;exact ⟨a1,c1,a2,c2,a3,c3,a4,c4,e1,e2,e3,e4⟩
end DR
def DO (w:World) (S:Nat->Prop) (u v iv bv:Value) (xs ys:List Bool) (is:List Ino) (bs:List Blk):Prop :=
 ∃ (S1 S2 S3:Nat->Prop) (ti tb:List V3),Two w 0 u v xs ys/\(∀ k,(u.ownBlock=some k\/v.ownBlock=some k)->S1 k)/\GO KI w S2 iv ti is/\GO KB w S3 bv tb bs/\(∀ k,S1 k->¬ S2 k/\¬ S3 k)/\(∀ k,S2 k->¬ S3 k)/\∀ k,S1 k\/S2 k\/S3 k->S k
namespace DO
variable {w w' : World} {S S' : Nat -> Prop} {u v iv bv : Value} {xs ys : List Bool} {is : List Ino} {bs : List Blk}
theorem of_heap (h:DO w S u v iv bv xs ys is bs)(hh:∀ k,S k->k < w.heap.size->w'.heap[k]?=w.heap[k]?):DO w' S u v iv bv xs ys is bs:=by
 obtain ⟨S1,S2,S3,ti,tb,h1,h2,h3,h4,h5,h6,h7⟩:=h;refine ⟨S1,S2,S3,ti,tb,⟨h1.a.of_heap fun k hk=>hh k (h7 k (.inl (h2 k (.inl hk)))) (h1.a.lt k hk).2,h1.b.of_heap fun k hk=>hh k (h7 k (.inl (h2 k (.inr hk)))) (h1.b.lt k hk).2,h1.ne⟩,h2,h3.of_heap fun k hs hk=>hh k (h7 k (.inr (.inl hs))) hk,h4.of_heap fun k hs hk=>hh k (h7 k (.inr (.inr hs))) hk,h5,h6,h7⟩
theorem below {B:Nat}(h:DO w S u v iv bv xs ys is bs)(hb:Below B w w')(hB:w.heap.size<=B):DO w' S u v iv bv xs ys is bs:=h.of_heap fun k _ hk=>hb.block k (by omega)
theorem alloc (h:DO w S u v iv bv xs ys is bs)(o:Obj):DO (w.alloc o) S u v iv bv xs ys is bs:=h.below ((Below.refl _ w).alloc nR o) nR
theorem chg (h:DO w S u v iv bv xs ys is bs)(hc:Chg S' w w')(hd:∀ k,S k->¬ S' k):DO w' S u v iv bv xs ys is bs:=h.of_heap fun k hs hk=>hc.block k hk (hd k hs)
theorem mono (h:DO w S u v iv bv xs ys is bs)(hs:∀ k,S k->S' k):DO w S' u v iv bv xs ys is bs:=by
 obtain ⟨S1,S2,S3,ti,tb,h1,h2,h3,h4,h5,h6,h7⟩:=h;exact ⟨S1,S2,S3,ti,tb,h1,h2,h3,h4,h5,h6,fun k hk=>hs k (h7 k hk)⟩
theorem dr (h:DO w S u v iv bv xs ys is bs):DR w u v iv bv xs ys is bs:=by
 obtain ⟨S1,S2,S3,ti,tb,h1,h2,h3,h4,-⟩:=h;exact ⟨h1.a.rfl,h1.b.rfl,h3.r3,h4.r3⟩
end DO
end Kit
theorem Tryz.u32:Tryz.prog.underlying 32=some (.slice 63):=by kernel_rfl
theorem Tryz.i63:(Tryz.prog.info? 63).map (fun i=>(i.zero,i.size,i.bytes))=some (some (.agg #[.int .i64 0,.int .i64 0,.slice none 0 0]),3,40):=by kernel_rfl
theorem Tryz.u33:Tryz.prog.underlying 33=some (.slice 74):=by kernel_rfl
theorem Tryz.i74:(Tryz.prog.info? 74).map (fun i=>(i.zero,i.size,i.bytes))=some (some (.agg #[.bool false,.slice none 0 0,.string ⟨#[]⟩]),3,48):=by kernel_rfl
theorem make_ino (n:Nat)(h:n<=1048576)(w:World):(Instr.makeSlice 32 (.int .i64 (n:Int)) (.int .i64 (n:Int))).run Tryz.prog w=.ok (.slice (some ⟨w.heap.size,0,none⟩) n n) (w.alloc (.cells (madeCells #[.int .i64 0,.int .i64 0,.slice none 0 0] (n * 3)) 63)):=by
 obtain ⟨i0,hi,hz0,hz1,hz2⟩:=info_parts Tryz.i63;rw [run_make w 32 63 i0 _ Tryz.u32 hi hz0 .i64 .i64 n n (by omega) (by omega) (by rw [hz2];omega) (by omega),hz1];rfl
theorem zkq (n:Nat)(h:n<=1048576)(w:World):(Instr.makeSlice 33 (.int .i64 (n:Int)) (.int .i64 (n:Int))).run Tryz.prog w=.ok (.slice (some ⟨w.heap.size,0,none⟩) n n) (w.alloc (.cells (madeCells #[.bool false,.slice none 0 0,.string ⟨#[]⟩] (n * 3)) 74)):=by
 obtain ⟨i0,hi,hz0,hz1,hz2⟩:=info_parts Tryz.i74;rw [run_make w 33 74 i0 _ Tryz.u33 hi hz0 .i64 .i64 n n (by omega) (by omega) (by rw [hz2];omega) (by omega),hz1];rfl
theorem zln (v:Value)(xs:List Ino)(w:World)(hv:R3 KI w v xs)(hl:xs.length<=1048576)(hp:∀ (j:Nat) (h:j < xs.length),xs[j].2.2.length<=1048576) :
  Calls Tryz.prog 18 #[v] w fun e w'=>∃ u ts,e=.returned u/\GO KI w' (fun k=>w.heap.size<=k) u ts xs/\Below w.heap.size w w':=by
 obtain ⟨a,c,rfl,-,hc⟩:=hv.ino;have HC:=hide hc;have HP:=hide hp;clear hc hv hp;have mk:=make_ino xs.length hl;go_enter Tryz.func18,Tryz.ntmps18
 go_wp2;go_loopw [4] (fun i wr=>∃ (j:Nat) (ts:List V3),j<=xs.length/\i=.int .i64 j/\GO KI wr (fun k=>w.heap.size<=k) (.slice (some ⟨w.heap.size,0,none⟩) xs.length xs.length) ts (cpy zI j xs)/\Below w.heap.size w wr) (fun i _=>xs.length - (intOf i).toNat)
 case atStart =>
  refine ⟨0,List.replicate xs.length zI3,Nat.zero_le _,rfl,?_,(Below.refl _ w).alloc nR _⟩;rw [zkp];exact GO.made (K:=KI) w zI3 zI xs.length (by unfold maxLen;omega) _ (zea _ _ _ _) zI_own rfl
 case round =>
  obtain ⟨j,ts,hj,rfl,hown,hb⟩:=hrel;by_cases hlt:j < xs.length
  ·obtain ⟨g,off,p,rfl,hg,m1,m2,m3,hp⟩:=HC.out j hlt;have q1:=(hb.cell (p:=⟨g,off+j * 3,none⟩) hg).trans m1;have q2:=(hb.cell (p:=⟨g,off+j * 3+1,none⟩) hg).trans m2;have q3:=(hb.cell (p:=⟨g,off+j * 3+2,none⟩) hg).trans m3;have hp2:=hp.below hb nR;have hpl:=HP.out j hlt;have CS:=hide (zmx zI j xs hlt);obtain ⟨y,hy⟩:∃ y,xs[j].1=y:=⟨_,rfl⟩
   obtain ⟨s,hs⟩:∃ s,xs[j].2.1=s:=⟨_,rfl⟩
   obtain ⟨z,hz⟩:∃ z,xs[j].2.2=z:=⟨_,rfl⟩
   have hx:xs[j]=(y,s,z):=by rw [← hy,← hs,← hz]
   rw [hy] at q1;rw [hs] at q2;rw [hz] at hp2 hpl;rw [hx] at CS;have hjt:j < ts.length:=by rw [hown.len,zf8 _ _ _ hj];exact hlt
   obtain ⟨g3,c3,e3,k1,k2,k3,k4,k5,-⟩:=hown.row.at j hjt;simp only [Value.slice.injEq,Option.some.injEq,Addr.mk.injEq] at e3;obtain ⟨⟨rfl,-,-⟩,-,-⟩:=e3;obtain ⟨o,ho⟩:∃ o:V3,ts[j]=o:=⟨_,rfl⟩
   rw [ho] at k1 k2 k3;have HQ:=hide (And.intro k5 (And.intro hjt hpl));have HK:Hid (∀ w1,Below wr.heap.size wr w1->w1.cell? ⟨w.heap.size,j * 3,none⟩=some o.1/\w1.cell? ⟨w.heap.size,j * 3+1,none⟩=some o.2.1/\w1.cell? ⟨w.heap.size,j * 3+2,none⟩=some o.2.2/\(∀ i,w1.frozen? ⟨w.heap.size,i,none⟩=false)):=fun w1 b =>
    ⟨(b.cell (p:=⟨w.heap.size,j * 3,none⟩) k5).trans k1,(b.cell (p:=⟨w.heap.size,j * 3+1,none⟩) k5).trans k2,(b.cell (p:=⟨w.heap.size,j * 3+2,none⟩) k5).trans k3,fun i=>(b.frozen (p:=⟨w.heap.size,i,none⟩) k5).trans (k4 i)⟩
   have HPT:=hide hp2;have HOWN:=hide hown;have HB:=hide hb;have hsz:=hb.size;have hgw:¬ g=w.heap.size:=by omega
   have j0:(0:Int)<=(j:Int):=by omega
   have j1:(j:Int) < (xs.length:Int):=by omega
   clear hown hb m1 m2 m3 hy hs hz hx hp hp2 mk k1 k2 k3 k4 hpl ho hjt;go_wp2_with (go_at_call 46;refine (toN_anyI _ _ _ z _ HPT.out HQ.out.2.2).mono ?_;rintro e w1 ⟨u,rfl,O1,B1⟩;obtain ⟨ua,uc,rfl⟩:=O1.rints.form;obtain ⟨k1,k2,k3,k4⟩:=HK.out w1 B1;have hk4:=k4 (j * 3);have hk5:=k4 (j * 3+1);have hk6:=k4 (j * 3+2);have O2:=HOWN.out.put (S':=fun k=>w.heap.size<=k) rfl j HQ.out.2.1 (.int .i64 y,.int .i64 s,.slice ua z.length uc) (y,s,z) B1 ⟨rfl,rfl,O1.base_le (Nat.zero_le _)⟩ (fun k hk=>(O1.lt k hk).1) (fun k hk=>hk) (fun k hk=>by omega);rw [CS.out] at O2;have HO:=hide (And.intro O2 ((((HB.out.trans (B1.mono hsz)).setCell (p:=⟨w.heap.size,j * 3,none⟩) nR (.int .i64 y)).setCell (p:=⟨w.heap.size,j * 3+1,none⟩) nR (.int .i64 s)).setCell (p:=⟨w.heap.size,j * 3+2,none⟩) nR (.slice ua z.length uc)));clear O1 O2 B1 k4)
   go_roundw
   case rel=>exact ⟨j+1,_,by omega,by go_num,HO.out.1,HO.out.2⟩
   case measure=>simp [intOf];omega
  ·have hjl:j=xs.length:=by omega
   have HR:=hide (And.intro hown hb);have HJ:=hide hjl;clear hown hb hjl mk;go_wp2;go_ret;exact ⟨_,ts,rfl,by have:=HR.out.1;rwa [HJ.out,zmw] at this,HR.out.2⟩
theorem zlo (v:Value)(xs:List Blk)(w:World)(hv:R3 KB w v xs)(hl:xs.length<=1048576)(hp:∀ (j:Nat) (h:j < xs.length),xs[j].2.1.length<=1048576) :
  Calls Tryz.prog 19 #[v] w fun e w'=>∃ u ts,e=.returned u/\GO KB w' (fun k=>w.heap.size<=k) u ts xs/\Below w.heap.size w w':=by
 obtain ⟨a,c,rfl,-,hc⟩:=hv.blk;have HC:=hide hc;have HP:=hide hp;clear hc hv hp;have mk:=zkq xs.length hl;go_enter Tryz.func19,Tryz.ntmps19
 go_wp2;go_loopw [4] (fun i wr=>∃ (j:Nat) (ts:List V3),j<=xs.length/\i=.int .i64 j/\GO KB wr (fun k=>w.heap.size<=k) (.slice (some ⟨w.heap.size,0,none⟩) xs.length xs.length) ts (cpy zB j xs)/\Below w.heap.size w wr) (fun i _=>xs.length - (intOf i).toNat)
 case atStart =>
  refine ⟨0,List.replicate xs.length zB3,Nat.zero_le _,rfl,?_,(Below.refl _ w).alloc nR _⟩;rw [zkp];exact GO.made (K:=KB) w zB3 zB xs.length (by unfold maxLen;omega) _ (zea _ _ _ _) zB_own rfl
 case round =>
  obtain ⟨j,ts,hj,rfl,hown,hb⟩:=hrel;by_cases hlt:j < xs.length
  ·obtain ⟨g,off,p,rfl,hg,m1,m2,m3,hp⟩:=HC.out j hlt;have q1:=(hb.cell (p:=⟨g,off+j * 3,none⟩) hg).trans m1;have q2:=(hb.cell (p:=⟨g,off+j * 3+1,none⟩) hg).trans m2;have q3:=(hb.cell (p:=⟨g,off+j * 3+2,none⟩) hg).trans m3;have hp2:=hp.below hb nR;have hpl:=HP.out j hlt;have CS:=hide (zmx zB j xs hlt);obtain ⟨y,hy⟩:∃ y,xs[j].1=y:=⟨_,rfl⟩
   obtain ⟨s,hs⟩:∃ s,xs[j].2.1=s:=⟨_,rfl⟩
   obtain ⟨z,hz⟩:∃ z,xs[j].2.2=z:=⟨_,rfl⟩
   have hx:xs[j]=(y,s,z):=by rw [← hy,← hs,← hz]
   rw [hy] at q1;rw [hz] at q3;rw [hs] at hp2 hpl;rw [hx] at CS;have hjt:j < ts.length:=by rw [hown.len,zf8 _ _ _ hj];exact hlt
   obtain ⟨g3,c3,e3,k1,k2,k3,k4,k5,-⟩:=hown.row.at j hjt;simp only [Value.slice.injEq,Option.some.injEq,Addr.mk.injEq] at e3;obtain ⟨⟨rfl,-,-⟩,-,-⟩:=e3;obtain ⟨o,ho⟩:∃ o:V3,ts[j]=o:=⟨_,rfl⟩
   rw [ho] at k1 k2 k3;have HQ:=hide (And.intro k5 (And.intro hjt hpl));have HK:Hid (∀ w1,Below wr.heap.size wr w1->w1.cell? ⟨w.heap.size,j * 3,none⟩=some o.1/\w1.cell? ⟨w.heap.size,j * 3+1,none⟩=some o.2.1/\w1.cell? ⟨w.heap.size,j * 3+2,none⟩=some o.2.2/\(∀ i,w1.frozen? ⟨w.heap.size,i,none⟩=false)):=fun w1 b =>
    ⟨(b.cell (p:=⟨w.heap.size,j * 3,none⟩) k5).trans k1,(b.cell (p:=⟨w.heap.size,j * 3+1,none⟩) k5).trans k2,(b.cell (p:=⟨w.heap.size,j * 3+2,none⟩) k5).trans k3,fun i=>(b.frozen (p:=⟨w.heap.size,i,none⟩) k5).trans (k4 i)⟩
   have HPT:=hide hp2;have HOWN:=hide hown;have HB:=hide hb;have hsz:=hb.size;have hgw:¬ g=w.heap.size:=by omega
   have j0:(0:Int)<=(j:Int):=by omega
   have j1:(j:Int) < (xs.length:Int):=by omega
   clear hown hb m1 m2 m3 hy hs hz hx hp hp2 mk k1 k2 k3 k4 hpl ho hjt;go_wp2_with (go_at_call 47;refine (toB_anyK _ _ _ s _ HPT.out HQ.out.2.2).mono ?_;rintro e w1 ⟨u,rfl,O1,B1⟩;obtain ⟨ua,uc,rfl⟩:=O1.rsl.form;obtain ⟨k1,k2,k3,k4⟩:=HK.out w1 B1;have hk4:=k4 (j * 3);have hk5:=k4 (j * 3+1);have hk6:=k4 (j * 3+2);have O2:=HOWN.out.put (S':=fun k=>w.heap.size<=k) rfl j HQ.out.2.1 (.bool y,.slice ua s.length uc,.string z) (y,s,z) B1 ⟨rfl,O1.base_le (Nat.zero_le _),rfl⟩ (fun k hk=>(O1.lt k hk).1) (fun k hk=>hk) (fun k hk=>by omega);rw [CS.out] at O2;have HO:=hide (And.intro O2 ((((HB.out.trans (B1.mono hsz)).setCell (p:=⟨w.heap.size,j * 3,none⟩) nR (.bool y)).setCell (p:=⟨w.heap.size,j * 3+1,none⟩) nR (.slice ua s.length uc)).setCell (p:=⟨w.heap.size,j * 3+2,none⟩) nR (.string z)));clear O1 O2 B1 k4)
   go_roundw
   case rel=>exact ⟨j+1,_,by omega,by go_num,HO.out.1,HO.out.2⟩
   case measure=>simp [intOf];omega
  ·have hjl:j=xs.length:=by omega
   have HR:=hide (And.intro hown hb);have HJ:=hide hjl;clear hown hb hjl mk;go_wp2;go_ret;exact ⟨_,ts,rfl,by have:=HR.out.1;rwa [HJ.out,zmw] at this,HR.out.2⟩
theorem zeb (u v iv bv:Value)(xs ys:List Bool)(is:List Ino)(bs:List Blk)(w:World)(h:DR w u v iv bv xs ys is bs)(hB:Big 1048576 xs ys is bs) :
  Calls Tryz.prog 6 #[.agg #[u,v,iv,bv]] w fun e w'=>∃ u' v' i' b',e=.returned (.agg #[u',v',i',b'])/\DO w' (fun k=>w.heap.size<=k) u' v' i' b' xs ys is bs/\Below w.heap.size w w':=by
 have H:=hide h;have HG:=hide hB;obtain ⟨a1,c1,a2,c2,a3,c3,a4,c4,rfl,rfl,rfl,rfl⟩:=h.form;clear h hB;go_enter Tryz.func6,Tryz.ntmps6
 go_wp2_with fail
 refine (toN_anyB _ _ xs ys _ (((H.out.a.alloc _).alloc _).alloc _) (((H.out.b.alloc _).alloc _).alloc _) HG.out.x HG.out.y).mono ?_;rintro e w1 ⟨u1,v1,rfl,T1,B1⟩;obtain ⟨e1,f1,e2,f2,rfl,rfl⟩:=T1.form;have BW:Below w.heap.size w w1:=((((Below.refl _ w).alloc nR _).alloc (by simp) _).alloc (by simp;omega) _).trans (B1.mono (by simp;omega));have K0:AtC w1 w.heap.size 28 #[.slice a1 xs.length c1,.slice a2 ys.length c2,.slice a3 is.length c3,.slice a4 bs.length c4]:=(((AtC.new w 28 _).alloc _).alloc _).over B1;have K1:AtC w1 (w.heap.size+1) 35 #[.slice none 0 0,.slice none 0 0,.slice none 0 0,.slice none 0 0]:=by
  have:=((AtC.new (w.alloc (Obj.cells #[.slice a1 xs.length c1,.slice a2 ys.length c2,.slice a3 is.length c3,.slice a4 bs.length c4] 28)) 35 #[.slice none 0 0,.slice none 0 0,.slice none 0 0,.slice none 0 0]).alloc (Obj.cells #[.slice none 0 0,.slice none 0 0,.slice none 0 0,.slice none 0 0] 35)).over B1;simpa using this
 have K2:AtC w1 (w.heap.size+1+1) 35 #[.slice none 0 0,.slice none 0 0,.slice none 0 0,.slice none 0 0]:=by
  have:=(AtC.new ((w.alloc (Obj.cells #[.slice a1 xs.length c1,.slice a2 ys.length c2,.slice a3 is.length c3,.slice a4 bs.length c4] 28)).alloc (Obj.cells #[.slice none 0 0,.slice none 0 0,.slice none 0 0,.slice none 0 0] 35)) 35 #[.slice none 0 0,.slice none 0 0,.slice none 0 0,.slice none 0 0]).over B1;simpa using this
 have T2:Two w1 (w.heap.size+1+1+1) (.slice e1 xs.length f1) (.slice e2 ys.length f2) xs ys:=T1.base_le (by simp);have HT:=hide T2;have HLU:Hid (∀ k,((Value.slice e1 xs.length f1).ownBlock=some k\/(Value.slice e2 ys.length f2).ownBlock=some k)->w.heap.size+1+1+1<=k/\k < w1.heap.size):=fun k hk=>hk.elim (fun e=>T2.a.lt k e) (fun e=>T2.b.lt k e);have HBW:=hide BW;have p2:w1.cell? ⟨w.heap.size,2,none⟩=some (.slice a3 is.length c3):=K0.cell 2;have q0:w1.cell? ⟨w.heap.size+1+1,0,none⟩=some (.slice none 0 0):=K2.cell 0;have q1:w1.cell? ⟨w.heap.size+1+1,1,none⟩=some (.slice none 0 0):=K2.cell 1;have z0:=K2.frozen 0;have z1:=K2.frozen 1;have HK0:=hide K0;have HK1:=hide K1;have HK2:=hide K2;clear T1 T2 B1 BW K0 K1 K2;go_wp2_with fail
 have BX:Below w.heap.size w ((w1.setCell ⟨w.heap.size+1+1,0,none⟩ (.slice e1 xs.length f1)).setCell ⟨w.heap.size+1+1,1,none⟩ (.slice e2 ys.length f2)):=(HBW.out.setCell (by simp;omega) _).setCell (by simp;omega) _;refine (zln _ is _ (H.out.i.below BX nR) HG.out.i HG.out.p).mono ?_;rintro e w2 ⟨i1,ti,rfl,G1,B2⟩;obtain ⟨e3,f3,rfl⟩:=G1.form;have BW2:=BX.trans (B2.mono BX.size);have K0:=((HK0.out.other (k:=0) (g:=w.heap.size+1+1) (by omega) (.slice e1 xs.length f1)).other (k:=1) (g:=w.heap.size+1+1) (by omega) (.slice e2 ys.length f2)).over B2;have K1:=((HK1.out.other (k:=0) (g:=w.heap.size+1+1) (by omega) (.slice e1 xs.length f1)).other (k:=1) (g:=w.heap.size+1+1) (by omega) (.slice e2 ys.length f2)).over B2;have K2:AtC w2 (w.heap.size+1+1) 35 #[.slice e1 xs.length f1,.slice e2 ys.length f2,.slice none 0 0,.slice none 0 0]:=((HK2.out.set 0 (.slice e1 xs.length f1)).set 1 (.slice e2 ys.length f2)).over B2;have T2:Two w2 (w.heap.size+1+1+1) (.slice e1 xs.length f1) (.slice e2 ys.length f2) xs ys:=((HT.out.set_other (by omega) _).set_other (by omega) _).below B2 nR;have G2:GO KI w2 (fun k=>w1.heap.size<=k/\k < w2.heap.size) (.slice e3 is.length f3) ti is:=(G1.bound).mono fun k hk=>⟨by have:=hk.1;simpa using this,hk.2⟩
 have hs1:w1.heap.size<=w2.heap.size:=by have:=B2.size;simpa using this
 have HS0:=hide (And.intro hs1 K1.lt);have hlt3:w.heap.size+1+1 < w1.heap.size:=HK2.out.lt;have HT2:=hide T2;have HG2:=hide G2;have HBW2:=hide BW2;have p3:w2.cell? ⟨w.heap.size,3,none⟩=some (.slice a4 bs.length c4):=K0.cell 3;have q2:w2.cell? ⟨w.heap.size+1+1,2,none⟩=some (.slice none 0 0):=K2.cell 2;have z2:=K2.frozen 2;have HL:=hide hlt3;have HK1:=hide K1;have HK2:=hide K2;clear G1 G2 B2 BX BW2 K0 K1 K2 T2 hs1 hlt3 p2 q0 q1 z0 z1 HBW HT HK0;go_wp2_with fail
 have BX:Below w.heap.size w (w2.setCell ⟨w.heap.size+1+1,2,none⟩ (.slice e3 is.length f3)):=HBW2.out.setCell (by simp;omega) _;refine (zlo _ bs _ (H.out.k.below BX nR) HG.out.b (fun j hj=>(HG.out.s j hj).1)).mono ?_;rintro e w3 ⟨b1,tb,rfl,G1,B3⟩;obtain ⟨e4,f4,rfl⟩:=G1.form;have BW3:=BX.trans (B3.mono BX.size);have K1:=(HK1.out.other (k:=2) (g:=w.heap.size+1+1) (by omega) (.slice e3 is.length f3)).over B3;have K2:AtC w3 (w.heap.size+1+1) 35 #[.slice e1 xs.length f1,.slice e2 ys.length f2,.slice e3 is.length f3,.slice none 0 0]:=(HK2.out.set 2 (.slice e3 is.length f3)).over B3;have T3:Two w3 (w.heap.size+1+1+1) (.slice e1 xs.length f1) (.slice e2 ys.length f2) xs ys:=(HT2.out.set_other (by omega) _).below B3 nR;have G3:GO KI w3 (fun k=>w1.heap.size<=k/\k < w2.heap.size) (.slice e3 is.length f3) ti is:=(HG2.out.setCell_other (fun e=>by have:=HL.out;omega) _).below B3 nR;have G4:GO KB w3 (fun k=>w2.heap.size<=k) (.slice e4 bs.length f4) tb bs:=G1.mono fun k hk=>by simpa using hk
 have HT3:=hide T3;have HG3:=hide G3;have HG4:=hide G4;have HBW3:=hide BW3;obtain ⟨q0,q1,q2,q3⟩:=AtC.four K2;have z3:=K2.frozen 3;obtain ⟨r0,r1,r2,r3⟩:=AtC.four K1;have y0:=K1.frozen 0;have y1:=K1.frozen 1;have y2:=K1.frozen 2;have y3:=K1.frozen 3;clear G1 G3 G4 B3 BX BW3 K1 K2 T3 p3 z2 HBW2 HT2 HG2 HK1 HK2;go_wp2;refine bodyPost_ret (v:=.agg #[.slice e1 xs.length f1,.slice e2 ys.length f2,.slice e3 is.length f3,.slice e4 bs.length f4]) (by simp [results,go_sem,r0,r1,r2,r3]) rfl ⟨_,_,_,_,rfl,?_,?_⟩
 ·have hL:=HL.out;have hS:=HS0.out;have T4:Two w3 0 (.slice e1 xs.length f1) (.slice e2 ys.length f2) xs ys:=HT3.out.base_le (Nat.zero_le _);refine (DO.of_heap (w:=w3) (S:=fun k=>w.heap.size+1+1+1<=k) ⟨fun k=>w.heap.size+1+1+1<=k/\k < w1.heap.size,_,_,ti,tb,T4,HLU.out,HG3.out,HG4.out,fun k hk=>⟨fun e=>by omega,fun e=>by omega⟩,fun k hk e=>by omega,fun k hk=>by omega⟩ fun k hk _=>?_).mono fun k hk=>by omega
  have n1:k≠w.heap.size+1:=by omega
  have n2:k≠w.heap.size+1+1:=by omega
  exact ((((heap_setCell_other _ ⟨w.heap.size+1,3,none⟩ k _ n1).trans (heap_setCell_other _ ⟨w.heap.size+1,2,none⟩ k _ n1)).trans (heap_setCell_other _ ⟨w.heap.size+1,1,none⟩ k _ n1)).trans (heap_setCell_other _ ⟨w.heap.size+1,0,none⟩ k _ n1)).trans (heap_setCell_other _ ⟨w.heap.size+1+1,3,none⟩ k _ n2)
 ·exact ((((HBW3.out.setCell (by simp;omega) _).setCell (by simp) _).setCell (by simp) _).setCell (by simp) _).setCell (by simp) _
namespace open_
open Go.ChangeShapes Go.WideShapes Go.ChangeAt Go.Joins
set_option linter.unusedVariables false
variable {H : Type} {enc : TypeId × Value -> H} {W : World}
theorem zf9 {P:Program}{α:Type}[Inhabited α](K:Kd α)(big:α->Prop){t e:TypeId}{f0 f1 f2:Field}{fuel:Nat}{c:Value}{y:DataW H×List MemPlace}(ht:P.underlying t=some (.slice e))(he:P.underlying e=some (.struct #[f0,f1,f2]))(ce:P.cellsOf e=3)
  (o0:f0.offset=0) (o1:f1.offset=1) (o2:f2.offset=2) (k0:P.cellsOf f0.type=1) (k1:P.cellsOf f1.type=1) (k2:P.cellsOf f2.type=1)
  (each:∀ n v0 v1 v2 y0 y1 y2,DataW.trod enc P W 0 (fun _=>true) true n f0.type [v0]=some y0->DataW.trod enc P W 0 (fun _=>true) true n f1.type [v1]=some y1->DataW.trod enc P W 0 (fun _=>true) true n f2.type [v2]=some y2->∃ x,K.R W (v0,v1,v2) x/\big x)
  (h:DataW.trod enc P W 0 (fun _=>true) true fuel t [c]=some y):∃ xs:List α,R3 K W c xs/\xs.length<=maxLen/\∀ (j:Nat) (h:j < xs.length),big xs[j]:=by
 rcases Go.Deep.open_slice ht h with ⟨hcs,_⟩ | ⟨a,len,cap,m,n,D,Pl,hcs,hb,hl,hm,hmm,_,hx⟩
 ·simp at hcs;subst hcs;exact ⟨[],⟨none,0,rfl,Nat.le_refl _,fun j hj=>by simp at hj⟩,by simp,fun j hj=>by simp at hj⟩
 ·simp at hcs;subst hcs;have hlm:len<=m:=by simp at hmm;omega
  have key:∀ i,i < len->∃ q:V3×α,W.cell? (a.add (i * 3))=some q.1.1/\W.cell? (a.add (i * 3+1))=some q.1.2.1/\W.cell? (a.add (i * 3+2))=some q.1.2.2/\K.R W q.1 q.2/\big q.2:=by
   intro i hi;obtain ⟨cs',h1,h2⟩:=hx i (by omega);rw [ce] at h1;obtain ⟨_,hlen,hcell⟩:=World.cells?_some h1;obtain ⟨xs,k,hk,hxy,_,hxl,hf⟩:=DataW.trod_struct he h2
   match xs,hxl,cs',hlen with
   | [y0,y1,y2],_,[v0,v1,v2],_ =>
    have g0:=hf 0 f0 rfl;have g1:=hf 1 f1 rfl;have g2:=hf 2 f2 rfl;simp [o0,o1,o2,k0,k1,k2] at g0 g1 g2;have e0:=hcell 0 (by omega);have e1:=hcell 1 (by omega);have e2:=hcell 2 (by omega);rw [Go.Deep.add_add] at e0 e1 e2;obtain ⟨x,hR,hbig⟩:=each k v0 v1 v2 y0 y1 y2 g0 g1 g2;exact ⟨((v0,v1,v2),x),by simpa using e0,by simpa using e1,by simpa using e2,hR,hbig⟩
  obtain ⟨q,hq⟩:=Go.Deep.choose_lt key;obtain ⟨b,off,spot⟩:=a;have ha:spot=none->∀ k,(⟨b,off,spot⟩:Addr).add k=⟨b,off+k,none⟩:=fun e k=>by subst e;cases k<;>simp [Addr.add]
  refine ⟨(List.range len).map fun i=>(q i).2,⟨some ⟨b,off,spot⟩,cap,by simp,by simpa using hl,fun j hj=>?_⟩,by simp;omega,fun j hj=>?_⟩
  ·have hj':j < len:=by simpa using hj
   have hspot:spot=none:=by
    have:=World.cell?_spot (hq 0 (by omega)).1;simpa [Addr.add] using this
   obtain ⟨c0,c1,c2,hR,_⟩:=hq j hj';rw [ha hspot] at c0 c1 c2;exact ⟨b,off,(q j).1,by rw [hspot],block_lt_of_cell c0,c0,by rw [Nat.add_assoc];exact c1,by rw [Nat.add_assoc];exact c2,by simpa using hR⟩
  ·have hj':j < len:=by simpa using hj
   simpa using (hq j hj').2.2.2.2
theorem flags_of {w:World}{a:Addr}{len cap:Nat}{B:Nat->Bool}(h1:len<=cap)(h:∀ i,i < cap->w.cell? (a.add i)=some (.bool (B i))):RFl w (.slice (some a) len cap) ((List.range len).map B):=by
 refine ⟨some a,cap,by simp,fun j hj=>?_⟩;have hj':j < len:=by simpa using hj
 obtain ⟨b,off,spot⟩:=a;have hspot:spot=none:=by simpa [Addr.add] using World.cell?_spot (h 0 (by omega))
 subst hspot;have ha:(⟨b,off,none⟩:Addr).add j=⟨b,off+j,none⟩:=by cases j<;>simp [Addr.add]
 have hc:=h j (by omega);rw [ha] at hc;refine ⟨b,off,rfl,block_lt_of_cell hc,?_⟩;rw [hc];simp
theorem zga {n:Nat}{v:Value}{y:DataW H×List MemPlace}(h:DataW.trod enc Tryz.prog W 0 (fun _=>true) true n 22 [v]=some y):∃ xs:List Bool,RFl W v xs/\xs.length<=maxLen:=by
 rcases Go.Deep.open_bools Tryz.underlying22 Tryz.underlying4 (by kernel_rfl) h with ⟨hcs,_⟩ | ⟨x,l,c,B,hcs,_,hl,hm,_,hcell⟩
 ·simp at hcs;subst hcs;exact ⟨[],⟨none,0,rfl,fun j hj=>by simp at hj⟩,by simp⟩
 ·simp at hcs;subst hcs;exact ⟨_,flags_of hl hcell,by simp;omega⟩
theorem ints_of {w:World}{a:Addr}{len:Nat}{cap:Nat}{zs:List Int}(h1:len<=zs.length)(h:∀ i,i < zs.length->w.cell? (a.add i)=some (.int .i64 (zs.getD i 0))):RInts w (.slice (some a) len cap) (zs.take len):=by
 refine ⟨some a,cap,by simp;omega,fun j hj=>?_⟩;have hj':j < len:=by simp at hj;omega
 obtain ⟨b,off,spot⟩:=a;have hspot:spot=none:=by simpa [Addr.add] using World.cell?_spot (h 0 (by omega))
 subst hspot;have ha:(⟨b,off,none⟩:Addr).add j=⟨b,off+j,none⟩:=by cases j<;>simp [Addr.add]
 have hc:=h j (by omega);rw [ha] at hc;refine ⟨b,off,rfl,block_lt_of_cell hc,?_⟩;rw [hc];simp [List.getD,List.getElem?_eq_getElem (show j < zs.length by omega)]
theorem zmy {n:Nat}{v:Value}{y:DataW H×List MemPlace}(h:DataW.trod enc Tryz.prog W 0 (fun _=>true) true n 54 [v]=some y):∃ xs:List Int,RInts W v xs/\xs.length<=maxLen:=by
 rcases open_ints Tryz.underlying54 Tryz.underlying3 (by kernel_rfl) h with ⟨hcs,_⟩ | ⟨x,l,c,zs,hcs,_,hl,hm,hz,_,hcell,hwz⟩
 ·simp at hcs;subst hcs;exact ⟨[],⟨none,0,rfl,fun j hj=>by simp at hj⟩,by simp⟩
 ·simp at hcs;subst hcs;have hle:l<=zs.length:=by simp at hz;omega
  exact ⟨zs.take l,ints_of hle hcell,by simp;omega⟩
def strOf:Value->ByteArray
 | .string s=>s
 | _=>⟨#[]⟩
def zcd (V0 V1:Nat->Value) (len:Nat):List Sl:=(List.range len).map fun i=>(strOf (V0 i),intOf (V1 i))
theorem slots_of {w:World}{a:Addr}{len cap:Nat}{V0 V1:Nat->Value}(hc:len<=cap)(h0:∀ i,i < len->w.cell? (a.add (i * 2))=some (V0 i))(h1:∀ i,i < len->w.cell? (a.add (i * 2+1))=some (V1 i))
  (hs:∀ i,i < len->∃ s:ByteArray,V0 i=.string s/\s.size<=maxLen) (hz:∀ i,i < len->∃ z:Int,V1 i=.int .i64 z) :
  RSl w (.slice (some a) len cap) (zcd V0 V1 len)/\∀ (j:Nat) (h:j < (zcd V0 V1 len).length),(zcd V0 V1 len)[j].1.size<=maxLen:=by
 have hlen:(zcd V0 V1 len).length=len:=by simp [zcd]
 refine ⟨⟨some a,cap,by rw [hlen],by rw [hlen];exact hc,fun j hj=>?_⟩,fun j hj=>?_⟩
 ·rw [hlen] at hj;obtain ⟨s,e0,_⟩:=hs j hj;obtain ⟨z,e1⟩:=hz j hj;have c0:=h0 j hj;have c1:=h1 j hj;obtain ⟨b,off,spot⟩:=a;have hspot:spot=none:=by
   have:=World.cell?_spot (h0 0 (by omega));simpa [Addr.add] using this
  subst hspot;have ha:∀ k,(⟨b,off,none⟩:Addr).add k=⟨b,off+k,none⟩:=fun k=>by cases k<;>simp [Addr.add]
  rw [ha] at c0 c1;refine ⟨b,off,rfl,block_lt_of_cell c0,?_,?_⟩
  ·rw [c0];simp [zcd,e0,strOf]
  ·rw [show off+j * 2+1=off+(j * 2+1) by omega,c1];simp [zcd,e1,intOf]
 ·rw [hlen] at hj;obtain ⟨s,e0,e1⟩:=hs j hj;simp [zcd,e0,strOf,e1]
theorem zlp {n:Nat}{v:Value}{y:DataW H×List MemPlace}(h:DataW.trod enc Tryz.prog W 0 (fun _=>true) true n 58 [v]=some y):∃ xs:List Sl,RSl W v xs/\xs.length<=maxLen/\∀ (j:Nat) (h:j < xs.length),xs[j].1.size<=maxLen:=by
 rcases Go.Deep.open_slice_pairs Tryz.underlying58 Tryz.underlying131 (by kernel_rfl) rfl rfl (by kernel_rfl) (by kernel_rfl) h with ⟨hcs,_⟩ | ⟨a,len,cap,m2,n2,V0,V1,D0,D1,P0,P1,hcs,-,hlc,hcm,hm2,-,hcell⟩
 ·simp at hcs;subst hcs;exact ⟨[],⟨none,0,rfl,Nat.le_refl _,fun j hj=>by simp at hj⟩,by simp,fun j hj=>by simp at hj⟩
 ·simp at hcs;subst hcs;have hlm:len<=m2:=by simp at hm2;omega
  have key:=slots_of (w:=W) (a:=a) (len:=len) (cap:=cap) (V0:=V0) (V1:=V1) hlc (fun i hi=>(hcell i (by omega)).1) (fun i hi=>(hcell i (by omega)).2.1)
   (fun i hi=>by obtain ⟨s,e,-,hs⟩:=DataW.trod_string Tryz.underlying9 (hcell i (by omega)).2.2.1;simp at e;exact ⟨s,e,hs⟩)
   (fun i hi=>by obtain ⟨z,e,-,-⟩:=DataW.trod_int Tryz.underlying3 (hcell i (by omega)).2.2.2;simp at e;exact ⟨z,e⟩)
  exact ⟨zcd V0 V1 len,key.1,by simp [zcd];omega,key.2⟩
theorem zmz {n:Nat}{v:Value}{y:DataW H×List MemPlace}(h:DataW.trod enc Tryz.prog W 0 (fun _=>true) true n 25 [v]=some y):∃ xs:List Ino,R3 KI W v xs/\xs.length<=maxLen/\∀ (j:Nat) (h:j < xs.length),xs[j].2.2.length<=maxLen:=by
 refine zf9 KI (fun x=>x.2.2.length<=maxLen) Tryz.underlying25 Tryz.underlying56 (by kernel_rfl) rfl rfl rfl (by kernel_rfl) (by kernel_rfl) (by kernel_rfl) ?_ h;intro n v0 v1 v2 y0 y1 y2 h0 h1 h2;obtain ⟨x0,e0,-⟩:=DataW.trod_int Tryz.underlying3 h0;obtain ⟨x1,e1,-⟩:=DataW.trod_int Tryz.underlying3 h1;obtain ⟨xs,hx,hl⟩:=zmy h2;simp at e0 e1;exact ⟨(x0,x1,xs),⟨e0,e1,hx⟩,hl⟩
theorem zm0 {n:Nat}{v:Value}{y:DataW H×List MemPlace}(h:DataW.trod enc Tryz.prog W 0 (fun _=>true) true n 26 [v]=some y):∃ xs:List Blk,R3 KB W v xs/\xs.length<=maxLen/\∀ (j:Nat) (h:j < xs.length),bigB maxLen xs[j]:=by
 refine zf9 KB (bigB maxLen) Tryz.underlying26 Tryz.underlying60 (by kernel_rfl) rfl rfl rfl (by kernel_rfl) (by kernel_rfl) (by kernel_rfl) ?_ h;intro n v0 v1 v2 y0 y1 y2 h0 h1 h2;obtain ⟨x0,e0,-⟩:=DataW.trod_bool Tryz.underlying4 h0;obtain ⟨xs,hx,hl,hb⟩:=zlp h1;obtain ⟨x2,e2,-,hx2⟩:=DataW.trod_string Tryz.underlying9 h2;simp at e0 e2;exact ⟨(x0,xs,x2),⟨e0,hx,e2⟩,hl,hb,hx2⟩
theorem disk_open {r:Reach}{b0:Nat}{v:Value}{d:DataW H}{p:List MemPlace}(hv:Value.okWide Tryz.prog W r b0 28 v)(h:DataW.Trod enc Tryz.prog W 0 (fun _=>true) true 28 v d p) :
  ∃ (u v' iv bv:Value) (xs ys:List Bool) (is:List Ino) (bs:List Blk),v=.agg #[u,v',iv,bv]/\DR W u v' iv bv xs ys is bs/\Big maxLen xs ys is bs:=by
 obtain ⟨cs,rfl,hsz⟩:=okWide_struct Tryz.underlying28 hv;have hC:Tryz.prog.cellsOf 28=4:=by kernel_rfl
 obtain ⟨c0,c1,c2,c3,rfl⟩:=array4 (hsz.trans hC);obtain ⟨fuel,hf⟩:=h;obtain ⟨y0,y1,y2,n,hx,_,h0,h1,h2⟩:=Go.Deep.trod_struct3 Tryz.underlying28 hf;have k0:Tryz.prog.cellsOf 24=2:=by kernel_rfl
 have k1:Tryz.prog.cellsOf 25=1:=by kernel_rfl
 have k2:Tryz.prog.cellsOf 26=1:=by kernel_rfl
 have k3:Tryz.prog.cellsOf 22=1:=by kernel_rfl
 simp [Value.cells,k0,k1,k2] at h0 h1 h2;obtain ⟨z0,z1,m,hz,_,g0,g1⟩:=trod_struct2 Tryz.underlying24 h0;simp [k3] at g0 g1;obtain ⟨xs,hx1,hx2⟩:=zga g0;obtain ⟨ys,hy1,hy2⟩:=zga g1;obtain ⟨is,hi1,hi2,hi3⟩:=zmz h1;obtain ⟨bs,hb1,hb2,hb3⟩:=zm0 h2;exact ⟨c0,c1,c2,c3,xs,ys,is,bs,rfl,⟨hx1,hy1,hi1,hb1⟩,⟨hx2,hy2,hi2,hi3,hb2,hb3⟩⟩
end open_
namespace Kit
abbrev Row:=List Value
def Even (n:Nat) (ts:List Row):Prop:=∀ t∈ts,t.length=n
theorem Even.nil (n:Nat):Even n []:=fun _ h=>by cases h
theorem Even.cons {n:Nat}{t:Row}{ts:List Row}(h:Even n (t :: ts)):t.length=n/\Even n ts:=⟨h t (by simp),fun x hx=>h x (by simp [hx])⟩
theorem Even.mk {n:Nat}{t:Row}{ts:List Row}(h1:t.length=n)(h:Even n ts):Even n (t :: ts):=fun x hx=>(List.mem_cons.1 hx).elim (fun e=>e ▸ h1) (h x)
theorem Even.append {n:Nat}{a b:List Row}(ha:Even n a)(hb:Even n b):Even n (a ++ b):=fun x hx=>(List.mem_append.1 hx).elim (ha x) (hb x)
theorem Even.at {n:Nat}{ts:List Row}(h:Even n ts)(j:Nat)(hj:j < ts.length):ts[j].length=n:=h _ (List.getElem_mem hj)
theorem Even.set {n:Nat}{ts:List Row}(h:Even n ts)(j:Nat){t:Row}(ht:t.length=n):Even n (ts.set j t):=fun x hx=>(List.mem_or_eq_of_mem_set hx).elim (h x) (fun e=>e ▸ ht)
theorem zco {n:Nat}{ts:List Row}(h:Even n ts):ts.flatten.length=ts.length * n:=by
 induction ts with
 | nil=>simp
 | cons t r ih=>rw [List.flatten_cons,List.length_append,ih h.cons.2,h.cons.1,List.length_cons,Nat.add_mul];omega
theorem flat_at {n:Nat}{ts:List Row}(h:Even n ts)(j i:Nat)(hj:j < ts.length)(hi:i < n):ts.flatten[j * n+i]?=ts[j][i]?:=by
 induction ts generalizing j with
 | nil=>simp at hj
 | cons t r ih =>
  have h1:=h.cons.1
  cases j with
  | zero =>
   rw [Nat.zero_mul,Nat.zero_add,List.flatten_cons,List.getElem?_append_left (by omega)];rfl
  | succ j =>
   rw [List.flatten_cons,List.getElem?_append_right (by rw [Nat.add_mul];omega),show (j+1) * n+i - t.length=j * n+i by rw [Nat.add_mul];omega];exact ih h.cons.2 j (by simpa using hj)
theorem flat_set {n:Nat}{ts:List Row}(h:Even n ts)(j i:Nat)(hj:j < ts.length)(hi:i < n)(x:Value):ts.flatten.set (j * n+i) x=(ts.set j (ts[j].set i x)).flatten:=by
 induction ts generalizing j with
 | nil=>simp at hj
 | cons t r ih =>
  have h1:=h.cons.1
  cases j with
  | zero =>
   rw [Nat.zero_mul,Nat.zero_add,List.flatten_cons,List.set_append_left _ _ (by omega)];rfl
  | succ j =>
   rw [List.flatten_cons,List.set_append_right _ _ (by rw [Nat.add_mul];omega),show (j+1) * n+i - t.length=j * n+i by rw [Nat.add_mul];omega,ih h.cons.2 j (by simpa using hj)];rfl
def setRow (w:World) (g off:Nat):Row->World
 | []=>w
 | x :: r=>setRow (w.setCell ⟨g,off,none⟩ x) g (off+1) r
theorem zem (g:Nat)(t:Row):∀ (w:World) (off k:Nat),k≠g->(setRow w g off t).heap[k]?=w.heap[k]?:=by
 induction t with
 | nil=>exact fun _ _ _ _=>rfl
 | cons x r ih=>exact fun w off k hk=>(ih _ _ k hk).trans (heap_setCell_other w ⟨g,off,none⟩ k x hk)
def NOwns (w:World) (e:TypeId) (n:Nat) (v:Value) (ts:List Row):Prop:=Even n ts/\w.ownsRow 0 e n v ts.length ts.flatten
theorem NOwns.lt {w:World}{e:TypeId}{n:Nat}{v:Value}{l:List Row}(h:NOwns w e n v l):∀ k,v.ownBlock=some k->k < w.heap.size:=fun k hk=>(World.ownsRow.lt h.2 k hk).2
theorem NOwns.of_heap {w w':World}{e:TypeId}{n:Nat}{v:Value}{l:List Row}(h:NOwns w e n v l)(hh:∀ k,v.ownBlock=some k->w'.heap[k]?=w.heap[k]?):NOwns w' e n v l:=by
 refine ⟨h.1,h.2.1,?_⟩;rcases h.2.2 with h1 | ⟨g,cap,cur,h1,h2,h3,h4⟩
 ·exact .inl h1
 ·exact .inr ⟨g,cap,cur,h1,h2,by rw [hh g (by rw [h1];rfl),h3],h4⟩
theorem NOwns.nil (w:World)(e:TypeId)(n:Nat):NOwns w e n (.slice none 0 0) []:=⟨Even.nil _,World.ownsRow_nil _ _ _ _⟩
theorem NOwns.form {w:World}{e:TypeId}{n:Nat}{v:Value}{l:List Row}(h:NOwns w e n v l):∃ a cap,v=.slice a l.length cap/\l.length<=cap/\(a=none->l=[]):=by
 rcases h.2.2 with ⟨rfl,h0⟩ | ⟨g,cap,cur,rfl,_,_,hc,_⟩
 ·exact ⟨none,0,by rw [h0],by omega,fun _=>List.length_eq_zero_iff.1 h0⟩
 ·exact ⟨_,_,rfl,hc,fun h=>by cases h⟩
theorem NOwns.at {w:World}{e:TypeId}{n:Nat}{v:Value}{l:List Row}(h:NOwns w e n v l)(k:Nat)(hk:k < l.length) :
  ∃ g cap,v=.slice (some ⟨g,0,none⟩) l.length cap/\(∀ i,i < n->w.cell? ⟨g,k * n+i,none⟩=l[k][i]?)/\(∀ j,w.frozen? ⟨g,j,none⟩=false)/\g < w.heap.size/\l.length<=cap:=by
 have hlt:=h.lt;rcases h.2.2 with ⟨h1,h0⟩ | ⟨g,cap,cur,rfl,h2,h3,h4,h5,h6,h7⟩
 ·omega
 ·have h':w.ownsRow 0 e n (.slice (some ⟨g,0,none⟩) l.length cap) l.length l.flatten:=h.2;refine ⟨g,cap,rfl,fun i hi=>(h'.cellAt _ ?_).trans (flat_at h.1 k i hk hi),h'.frozenAt,hlt g rfl,h4⟩;have:(k+1) * n<=l.length * n:=Nat.mul_le_mul_right n hk;rw [Nat.add_mul] at this;omega
theorem NOwns.set {w:World}{g cap:Nat}{e:TypeId}{n:Nat}{l:List Row}(h:NOwns w e n (.slice (some ⟨g,0,none⟩) l.length cap) l)(k i:Nat)(hk:k < l.length)(hi:i < n)(x:Value) :
  NOwns (w.setCell ⟨g,k * n+i,none⟩ x) e n (.slice (some ⟨g,0,none⟩) l.length cap) (l.set k (l[k].set i x)):=by
 refine ⟨h.1.set k (by rw [List.length_set];exact h.1.at k hk),?_⟩;rw [List.length_set,← flat_set h.1 k i hk hi x];exact (World.ownsRow.stored h.2 (k * n+i) x).1
theorem NOwns.setRow {g cap:Nat}{e:TypeId}{n:Nat}(k:Nat)(t:Row):∀ (w:World) (l:List Row) (hk:k < l.length) (pre:Row),NOwns w e n (.slice (some ⟨g,0,none⟩) l.length cap) l->pre.length+t.length=n->l[k].take pre.length=pre ->
  NOwns (setRow w g (k * n+pre.length) t) e n (.slice (some ⟨g,0,none⟩) l.length cap) (l.set k (pre ++ t)):=by
 induction t with
 | nil =>
  intro w l hk pre h hl hp;have e1:l[k]=pre:=by
   have:=h.1.at k hk;rw [← hp,List.take_of_length_le (by simp at hl;omega)]
  rw [List.append_nil,← e1,List.set_getElem_self];exact h
 | cons x r ih =>
  intro w l hk pre h hl hp;have hlen:=h.1.at k hk;simp only [List.length_cons] at hl;have h1:=h.set k pre.length hk (by omega) x;have hk2:k < (l.set k (l[k].set pre.length x)).length:=by simpa using hk
  have h2:NOwns (w.setCell ⟨g,k * n+pre.length,none⟩ x) e n (.slice (some ⟨g,0,none⟩) (l.set k (l[k].set pre.length x)).length cap) (l.set k (l[k].set pre.length x)):=by rw [List.length_set];exact h1
  have hp2:(l.set k (l[k].set pre.length x))[k].take (pre ++ [x]).length=pre ++ [x]:=by
   rw [List.getElem_set_self,List.length_append,List.length_singleton,List.take_add_one,List.take_set_of_le nR,hp,List.getElem?_set_self (by omega)];rfl
  have h3:=ih _ _ hk2 (pre ++ [x]) h2 (by simp;omega) hp2;rw [List.length_append,List.length_singleton,List.length_set,List.set_set,List.append_assoc] at h3;exact h3
theorem NOwns.of_at {w:World}{e:TypeId}{n g:Nat}{cs:Array Value}{ts:List Row}(h:AtC w g e cs)(hc:cs.toList=ts.flatten)(he:Even n ts)(hm:ts.length<=maxLen):NOwns w e n (.slice (some ⟨g,0,none⟩) ts.length ts.length) ts:=by
 have hs:cs.size=ts.length * n:=by rw [← Array.length_toList,hc,zco he]
 refine ⟨he,by rw [zco he],.inr ⟨g,ts.length,cs,rfl,Nat.zero_le _,h,Nat.le_refl _,hm,hs,?_⟩⟩;rw [hc,List.take_of_length_le (by rw [zco he];exact Nat.le_refl _)]
theorem zg2 {P:Program}(W:World){ops:Array Oper}{o:Oper}{a:Act}{K:Act->World->Prop}{Q:Exit->Act->World->Prop}{E:Prop}(hgd:o.guard=none)(s x:Operand)(t:TypeId)
  (ho:o.op=.call { callee:=.builtin .append,args:=#[s,x],argTypes:=#[t,t] }) (e:TypeId) (ht:P.underlying t=some (.slice e)) (z:Value) (n bytes:Nat)
  (hi:(P.info? e).map (fun i=>(i.zero,i.size,i.bytes))=some (some z,n,bytes)) (hzc:z.cells.size=n) (hn:0 < n) (hby:bytes<=640) (v:Value) (ts:List Row) (hs:a.eval s=v) (hown:NOwns W e n v ts)
  (g:Nat) (y:Row) (hy:y.length=n) (hx:a.eval x=.slice (some ⟨g,0,none⟩) 1 1) (hc:∀ (j:Nat) (u:Value),y[j]?=some u->W.cell? ⟨g,j,none⟩=some u) (h1:∀ u∈y,u.oneCell'=true) (hl:ts.length<=100000000000)
  (h:∀ v' w',NOwns w' e n v' (ts ++ [y])->W.grownBy w' v.ownBlock->(∀ k,v'.ownBlock=some k->v.ownBlock=some k\/W.heap.size<=k)->K (a.put o.dst v') w') :
  if Region.wanted o (yielded ops a.tmps)=true then Oper.wp P o a W K Q else E:=by
 obtain ⟨i0,hi,hz0,hz1,hz2⟩:=info_parts hi;refine step_append_lies _ hgd s x t ho 0 e i0 z n bytes ht hi hz0 hz1 hz2 hzc hn v ts.length ts.flatten hs hown.2 ⟨g,0,none⟩ 1 1 y hx (by rw [hy,Nat.one_mul]) ?_ h1 (by decide) ?_ ?_ (Nat.zero_le _) W.heap.size rfl ?_
 ·intro j u hj;have:=hc j u hj;by_cases e:j=0
  ·subst e;simpa [Addr.add] using this
  ·simpa [Addr.add,e] using this
 ·unfold maxLen;omega
 ·have:(ts.length+1) * bytes<=100000000001 * 640:=Nat.mul_le_mul (by omega) hby;omega
 ·intro g' cap w' hown' hgrow hat _;refine h _ w' ⟨hown.1.append (Even.mk hy (Even.nil _)),?_⟩ hgrow fun k hk=>?_
  ·rw [List.length_append,List.flatten_append,show [y].flatten=y by simp];exact hown'
  ·simp only [Value.ownBlock,Option.some.injEq] at hk;subst hk;rcases hat with hat | hat
   ·exact .inl hat
   ·exact .inr (by omega)
structure Kn (α:Type) where
 n:Nat
 T:TypeId
 p:Row->Value
 O:World->Row->α->Prop
 R:World->Row->α->Prop
 len:∀ {w:World} {t:Row} {x:α},O w t x->t.length=n
 heap:∀ {w w':World} {t:Row} {x:α},O w t x->(∀ k,(p t).ownBlock=some k->w'.heap[k]?=w.heap[k]?)->O w' t x
 lt:∀ {w:World} {t:Row} {x:α},O w t x->∀ k,(p t).ownBlock=some k->k < w.heap.size
 rd:∀ {w:World} {t:Row} {x:α},O w t x->R w t x
 bel:∀ {w w':World} {t:Row} {x:α} {B:Nat},R w t x->Below B w w'->w.heap.size<=B->R w' t x
structure GN {α:Type} (K:Kn α) (w:World) (S:Nat->Prop) (v:Value) (ts:List Row) (xs:List α):Prop where
 len:ts.length=xs.length
 row:NOwns w K.T K.n v ts
 inn:∀ (j:Nat) (h:j < ts.length) (h':j < xs.length),K.O w ts[j] xs[j]
 sep:∀ (i j:Nat) (hi:i < ts.length) (hj:j < ts.length),i≠j->∀ k,(K.p ts[i]).ownBlock=some k->(K.p ts[j]).ownBlock≠some k
 out:∀ (j:Nat) (h:j < ts.length) (k:Nat),(K.p ts[j]).ownBlock=some k->v.ownBlock≠some k
 so:∀ k,v.ownBlock=some k->S k
 si:∀ (j:Nat) (h:j < ts.length) (k:Nat),(K.p ts[j]).ownBlock=some k->S k
namespace GN
variable {α : Type} {K : Kn α} {w w' w1 w2 : World} {S S' : Nat -> Prop} {v v' : Value} {ts : List Row} {xs : List α} {t' : Row} {x' : α}
theorem of_heap (h:GN K w S v ts xs)(hh:∀ k,S k->k < w.heap.size->w'.heap[k]?=w.heap[k]?):GN K w' S v ts xs :=
 ⟨h.len,h.row.of_heap fun k hk=>hh k (h.so k hk) (h.row.lt k hk),fun j hj hj'=>K.heap (h.inn j hj hj') fun k hk=>hh k (h.si j hj k hk) (K.lt (h.inn j hj hj') k hk),h.sep,h.out,h.so,h.si⟩
theorem below {B:Nat}(h:GN K w S v ts xs)(hb:Below B w w')(hB:w.heap.size<=B):GN K w' S v ts xs:=h.of_heap fun k _ hk=>hb.block k (by omega)
theorem chg (h:GN K w S v ts xs)(hc:Chg S' w w')(hd:∀ k,S k->¬ S' k):GN K w' S v ts xs:=h.of_heap fun k hs hk=>hc.block k hk (hd k hs)
theorem alloc (h:GN K w S v ts xs)(o:Obj):GN K (w.alloc o) S v ts xs:=h.below ((Below.refl _ w).alloc nR o) nR
theorem drew (h:GN K w S v ts xs):GN K w.drew S v ts xs:=h.below (Below.refl w.heap.size w).drew nR
theorem mono (h:GN K w S v ts xs)(hs:∀ k,S k->S' k):GN K w S' v ts xs:=⟨h.len,h.row,h.inn,h.sep,h.out,fun k e=>hs k (h.so k e),fun j hj k e=>hs k (h.si j hj k e)⟩
theorem bound (h:GN K w S v ts xs):GN K w (fun k=>S k/\k < w.heap.size) v ts xs :=
 ⟨h.len,h.row,h.inn,h.sep,h.out,fun k e=>⟨h.so k e,h.row.lt k e⟩,fun j hj k e=>⟨h.si j hj k e,K.lt (h.inn j hj (by rw [← h.len];exact hj)) k e⟩⟩
theorem form (h:GN K w S v ts xs):∃ a cap,v=.slice a xs.length cap:=by
 obtain ⟨a,c,e,_⟩:=h.row.form;exact ⟨a,c,by rw [e,h.len]⟩
theorem nil (w:World)(S:Nat->Prop):GN K w S (.slice none 0 0) [] [] :=
 ⟨rfl,NOwns.nil _ _ _,fun j hj=>by simp at hj,fun i j hi=>by simp at hi,fun j hj=>by simp at hj,(fun k e=>by cases e),fun j hj=>by simp at hj⟩
theorem len_of (h:GN K w S v ts xs){a:Option Addr}{n cap:Nat}(hv:v=.slice a n cap):n=ts.length:=by
 obtain ⟨a',c,e,_⟩:=h.row.form;rw [hv] at e;simp only [Value.slice.injEq] at e;exact e.2.1
theorem turn (h:GN K w S v ts xs)(j:Nat)(hj:j < ts.length)(t':Row)(x':α)(hr:NOwns w' K.T K.n v (ts.set j t'))(hO:K.O w' t' x')
  (hf:∀ k,k < w.heap.size->v.ownBlock≠some k->(K.p ts[j]).ownBlock≠some k->w'.heap[k]?=w.heap[k]?)
  (hn:∀ k,(K.p t').ownBlock=some k->(K.p ts[j]).ownBlock=some k\/w.heap.size<=k) (hs:∀ k,S k->S' k) (hs2:∀ k,(K.p t').ownBlock=some k->S' k):GN K w' S' v (ts.set j t') (xs.set j x'):=by
 have hl:=h.len;have hv:=h.row.lt;refine ⟨by simp [hl],hr,fun i hi hi'=>?_,fun i i2 hi hi2 hne k e1 e2=>?_,fun i hi k e1 e2=>?_,fun k e=>hs k (h.so k e),fun i hi k e=>?_⟩
 ·simp only [List.length_set] at hi hi';by_cases e:j=i
  ·subst e;simp only [List.getElem_set_self];exact hO
  ·simp only [List.getElem_set_ne e];exact K.heap (h.inn i hi hi') fun k hk=>hf k (K.lt (h.inn i hi hi') k hk) (fun e'=>h.out i hi k hk e') (fun e'=>h.sep i j hi hj (fun q=>e q.symm) k hk e')
 ·simp only [List.length_set] at hi hi2;by_cases ei:j=i
  ·subst ei;simp only [List.getElem_set_self] at e1;rw [List.getElem_set_ne hne] at e2;rcases hn k e1 with q | q
   ·exact h.sep j i2 hi hi2 hne k q e2
   ·have:=K.lt (h.inn i2 hi2 (by omega)) k e2;omega
  ·rw [List.getElem_set_ne ei] at e1;by_cases e2':j=i2
   ·subst e2';simp only [List.getElem_set_self] at e2;rcases hn k e2 with q | q
    ·exact h.sep i j hi hj hne k e1 q
    ·have:=K.lt (h.inn i hi (by omega)) k e1;omega
   ·rw [List.getElem_set_ne e2'] at e2;exact h.sep i i2 hi hi2 hne k e1 e2
 ·simp only [List.length_set] at hi;by_cases ei:j=i
  ·subst ei;simp only [List.getElem_set_self] at e1;rcases hn k e1 with q | q
   ·exact h.out j hi k q e2
   ·have:=hv k e2;omega
  ·rw [List.getElem_set_ne ei] at e1;exact h.out i hi k e1 e2
 ·simp only [List.length_set] at hi;by_cases ei:j=i
  ·subst ei;simp only [List.getElem_set_self] at e;exact hs2 k e
  ·rw [List.getElem_set_ne ei] at e;exact hs k (h.si i hi k e)
theorem put (h:GN K w S v ts xs){g n cap:Nat}(hv:v=.slice (some ⟨g,0,none⟩) n cap)(j:Nat)(hj:j < ts.length)(hb:Below w.heap.size w w1)(hO:K.O w1 t' x')
  (hn:∀ k,(K.p t').ownBlock=some k->w.heap.size<=k) (hs:∀ k,S k->S' k) (hs2:∀ k,w.heap.size<=k->S' k):GN K (setRow w1 g (j * K.n) t') S' v (ts.set j t') (xs.set j x'):=by
 have hg:g < w.heap.size:=h.row.lt g (by rw [hv];rfl);have r1:NOwns w1 K.T K.n v ts:=h.row.of_heap fun k hk=>hb.block k (h.row.lt k hk);have hlen:=h.len_of hv;subst hlen;subst hv;refine h.turn j hj t' x' ?_ (K.heap hO fun k hk=>zem g t' _ _ k (by have:=hn k hk;omega)) (fun k hk h1 _=>(zem g t' _ _ k (fun e=>h1 (by rw [e];rfl))).trans (hb.block k hk)) (fun k hk=>.inr (hn k hk)) hs (fun k hk=>hs2 k (hn k hk));have:=NOwns.setRow (g:=g) (cap:=cap) j t' w1 ts hj [] r1 (by rw [List.length_nil,Nat.zero_add];exact K.len hO) rfl;exact this
theorem append (h:GN K w S v ts xs)(hb:Below w.heap.size w w1)(hO:K.O w1 t' x')(hn:∀ k,(K.p t').ownBlock=some k->w.heap.size<=k)
  (hr:NOwns w2 K.T K.n v' (ts ++ [t'])) (hg:w1.grownBy w2 v.ownBlock) (hv:∀ k,v'.ownBlock=some k->v.ownBlock=some k\/w1.heap.size<=k):GN K w2 (fun k=>(S k/\k < w.heap.size)\/w.heap.size<=k) v' (ts ++ [t']) (xs ++ [x']):=by
 have hl:=h.len;have hsz:=hb.size;have hlt:∀ (i:Nat) (hi:i < ts.length) (k:Nat),(K.p ts[i]).ownBlock=some k->k < w.heap.size:=fun i hi k hk=>K.lt (h.inn i hi (by omega)) k hk;have hlt':∀ k,(K.p t').ownBlock=some k->k < w1.heap.size:=fun k hk=>K.lt hO k hk;have hvl:∀ k,v.ownBlock=some k->k < w.heap.size:=h.row.lt;have at_l:∀ (i:Nat) (hi:i < (ts ++ [t']).length),(∃ h':i < ts.length,(ts ++ [t'])[i]=ts[i])\/(i=ts.length/\(ts ++ [t'])[i]=t'):=fun i hi=>by
  by_cases e:i < ts.length
  ·exact .inl ⟨e,List.getElem_append_left e⟩
  ·have e2:i=ts.length:=by simp at hi;omega
   refine .inr ⟨e2,?_⟩;subst e2;simp
 refine ⟨by simp [hl],hr,fun i hi hi'=>?_,fun i j hi hj hne k e1 e2=>?_,fun i hi k e1 e2=>?_,fun k e=>?_,fun i hi k e=>?_⟩
 ·rcases at_l i hi with ⟨h',e⟩ | ⟨rfl,e⟩
  ·rw [e,List.getElem_append_left (by omega)];exact K.heap (h.inn i h' (by omega)) fun k hk=>(hg.block k (by have:=hlt i h' k hk;omega) (fun e=>h.out i h' k hk e.symm)).trans (hb.block k (hlt i h' k hk))
  ·have e2:(xs ++ [x'])[ts.length]=x':=by simp [hl]
   rw [e,e2];exact K.heap hO fun k hk=>hg.block k (hlt' k hk) (fun e=>by have:=hvl k e.symm;have:=hn k hk;omega)
 ·rcases at_l i hi with ⟨h1,q1⟩ | ⟨q0,q1⟩<;>rcases at_l j hj with ⟨h2,q2⟩ | ⟨q3,q2⟩<;>rw [q1] at e1<;>rw [q2] at e2
  ·exact h.sep i j h1 h2 hne k e1 e2
  ·have:=hlt i h1 k e1;have:=hn k e2;omega
  ·have:=hlt j h2 k e2;have:=hn k e1;omega
  ·omega
 ·rcases at_l i hi with ⟨h1,q1⟩ | ⟨q0,q1⟩<;>rw [q1] at e1
  ·rcases hv k e2 with q | q
   ·exact h.out i h1 k e1 q
   ·have:=hlt i h1 k e1;omega
  ·rcases hv k e2 with q | q
   ·have:=hvl k q;have:=hn k e1;omega
   ·have:=hlt' k e1;omega
 ·rcases hv k e with q | q
  ·exact .inl ⟨h.so k q,hvl k q⟩
  ·exact .inr (by omega)
 ·rcases at_l i hi with ⟨h1,q1⟩ | ⟨q0,q1⟩<;>rw [q1] at e
  ·exact .inl ⟨h.si i h1 k e,hlt i h1 k e⟩
  ·exact .inr (hn k e)
end GN
def RN {α:Type} (K:Kn α) (w:World) (v:Value) (xs:List α):Prop:=∃ a cap,v=.slice a xs.length cap/\xs.length<=cap/\∀ (j:Nat) (h:j < xs.length),∃ g off t,a=some ⟨g,off,none⟩/\g < w.heap.size/\(∀ i,i < K.n->w.cell? ⟨g,off+j * K.n+i,none⟩=t[i]?)/\K.R w t xs[j]
theorem RN.below {α:Type}{K:Kn α}{w w':World}{B:Nat}{v:Value}{xs:List α}(h:RN K w v xs)(hb:Below B w w')(hB:w.heap.size<=B):RN K w' v xs:=by
 obtain ⟨a,cap,h1,h2,h3⟩:=h;refine ⟨a,cap,h1,h2,fun j hj=>?_⟩;obtain ⟨g,off,t,k1,k2,k3,k4⟩:=h3 j hj;exact ⟨g,off,t,k1,Nat.lt_of_lt_of_le k2 hb.size,fun i hi=>(hb.cell (p:=⟨g,off+j * K.n+i,none⟩) (by show g < B;omega)).trans (k3 i hi),K.bel k4 hb hB⟩
theorem RN.alloc {α:Type}{K:Kn α}{w:World}{v:Value}{xs:List α}(h:RN K w v xs)(o:Obj):RN K (w.alloc o) v xs:=h.below ((Below.refl _ w).alloc nR o) nR
theorem RN.drew {α:Type}{K:Kn α}{w:World}{v:Value}{xs:List α}(h:RN K w v xs):RN K w.drew v xs:=h.below (Below.refl w.heap.size w).drew nR
theorem RN.form {α:Type}{K:Kn α}{w:World}{v:Value}{xs:List α}(h:RN K w v xs):∃ a c,v=.slice a xs.length c:=by
 obtain ⟨a,c,h,_⟩:=h;exact ⟨a,c,h⟩
end Kit
namespace Kit
def RC (w:World) (v:Value) (n:Nat) (cs:List Value):Prop:=∃ a cap,v=.slice a n cap/\∀ (j:Nat) (u:Value),cs[j]?=some u->∃ g off,a=some ⟨g,off,none⟩/\w.cell? ⟨g,off+j,none⟩=some u
theorem zcx {P:Program}(w:World)(t ty:TypeId)(base:Nat)(e:TypeId)(ht:P.underlying t=some (.slice e))(z:Value)(m bytes:Nat)
  (hi:(P.info? e).map (fun i=>(i.zero,i.size,i.bytes))=some (some z,m,bytes)) (hzc:z.cells.size=m) (hm0:0 < m) (hby:bytes<=640) (v:Value) (hown:w.ownsRow base e m v 0 [])
  (hbase:base<=w.heap.size) (x:Value) (n:Nat) (cs:List Value) (hx:RC w x n cs) (hcl:cs.length=n * m) (h1:∀ u∈cs,u.oneCell'=true) (hl:n<=100000000000) :
  ∃ v' w',(Builtin.append_ #[t,t] ty #[v,x]).run P w=.ok v' w'/\w'.ownsRow base e m v' n cs/\w.grownBy w' v.ownBlock/\(v'.ownBlock=v.ownBlock\/v'.ownBlock=some w.heap.size):=by
 obtain ⟨i0,hi,hz0,hz1,hz2⟩:=info_parts hi;obtain ⟨a,c,rfl,hc⟩:=hx
 cases a with
 | none =>
  have hx0:cs=[]:=by
   cases cs with
   | nil=>rfl
   | cons y r=>obtain ⟨_,_,h,_⟩:=hc 0 y (by simp);cases h
  subst hx0;have hn:n=0:=by
   rcases Nat.eq_zero_or_pos n with h | h
   ·exact h
   ·have:=Nat.mul_pos h hm0;simp at hcl;omega
  subst hn;obtain ⟨av,cv,rfl⟩:∃ av cv,v=.slice av 0 cv:=by
   rcases hown.2 with ⟨h1,h0⟩ | ⟨g,cap,cur,h1,-,-,h4,-⟩
   ·exact ⟨_,_,h1⟩
   ·exact ⟨_,_,h1⟩
  have hr:=run_append_nothing (P:=P) w t t ty e i0 ht hi av 0 cv (Nat.zero_le _) (.slice none 0 c) (Src.ofNil w ht c);exact ⟨_,w,hr,hown,zcn bR _,.inl rfl⟩
 | some ad =>
  have h63:(0+n) * bytes<=100000000000 * 640:=Nat.mul_le_mul (by omega) hby;obtain ⟨v',w',hr,h2,h3,_,h5⟩:=run_append_own_at (P:=P) w base t ty e i0 z m bytes ht hi hz0 hz1 hz2 hzc hm0 v 0 [] hown ad n c cs hcl
   (fun j u hj=>by
    obtain ⟨g,off,e1,h4⟩:=hc j u hj
    cases e1
    have ha:(⟨g,off,none⟩:Addr).add j=⟨g,off+j,none⟩:=by cases j<;>simp [Addr.add]
    rw [ha,h4]) h1 (by unfold maxLen;omega) (by omega) hbase
  refine ⟨v',w',hr,?_,h3,h5⟩;rw [Nat.zero_add,List.nil_append] at h2;exact h2
theorem zf1 {P:Program}(w:World){o:Oper}{a:Act}{K:Act->World->Prop}{Q:Exit->Act->World->Prop}(s x:Operand)(t:TypeId)
  (ho:o.op=.call { callee:=.builtin .append,args:=#[s,x],argTypes:=#[t,t] }) (base:Nat) (e:TypeId) (ht:P.underlying t=some (.slice e)) (z:Value) (m bytes:Nat)
  (hi:(P.info? e).map (fun i=>(i.zero,i.size,i.bytes))=some (some z,m,bytes)) (hzc:z.cells.size=m) (hm0:0 < m) (hby:bytes<=640) (v:Value) (hs:a.eval s=v) (hown:w.ownsRow base e m v 0 [])
  (hbase:base<=w.heap.size) (u:Value) (hu:a.eval x=u) (n:Nat) (cs:List Value) (hx:RC w u n cs) (hcl:cs.length=n * m) (h1:∀ u∈cs,u.oneCell'=true) (hl:n<=100000000000)
  (h:∀ v' w',w'.ownsRow base e m v' n cs->w.grownBy w' v.ownBlock->(v'.ownBlock=v.ownBlock\/v'.ownBlock=some w.heap.size)->K (a.put o.dst v') w'):o.wp P a w K Q:=by
 obtain ⟨v',w',hr,h2,h3,h4⟩:=zcx (P:=P) w t o.type base e ht z m bytes hi hzc hm0 hby v hown hbase u n cs hx hcl h1 hl;unfold Oper.wp execOp;simp only [ho,resolve,invoke,builtin,Sem.run_bind,Sem.run_pure,Result.andThen_ok,List.map_toArray,List.map_cons,List.map_nil,hs,hu,hr];exact h v' w' h2 h3 h4
theorem zar {P:Program}(w:World){ops:Array Oper}{rest:List Oper}{o:Oper}{a:Act}{Q:Exit->Act->World->Prop}(hgd:o.guard=none)(s x:Operand)(t:TypeId)
  (ho:o.op=.call { callee:=.builtin .append,args:=#[s,x],argTypes:=#[t,t] }) (base:Nat) (e:TypeId) (ht:P.underlying t=some (.slice e)) (z:Value) (m bytes:Nat)
  (hi:(P.info? e).map (fun i=>(i.zero,i.size,i.bytes))=some (some z,m,bytes)) (hzc:z.cells.size=m) (hm0:0 < m) (hby:bytes<=640) (v:Value) (hs:a.eval s=v) (hown:w.ownsRow base e m v 0 [])
  (hbase:base<=w.heap.size) (u:Value) (hu:a.eval x=u) (n:Nat) (cs:List Value) (hx:RC w u n cs) (hcl:cs.length=n * m) (h1:∀ u∈cs,u.oneCell'=true) (hl:n<=100000000000)
  (h:∀ v' w',w'.ownsRow base e m v' n cs->w.grownBy w' v.ownBlock->(v'.ownBlock=v.ownBlock\/v'.ownBlock=some w.heap.size)->wpList P ops Q rest (a.put o.dst v') w'):wpList P ops Q (o :: rest) a w :=
 wpList_plain hgd fun _ hK=>zf1 w s x t ho base e ht z m bytes hi hzc hm0 hby v hs hown hbase u hu n cs hx hcl h1 hl fun v' w' a b c=>hK _ _ (h v' w' a b c)
theorem zex {P:Program}(w:World)(t ty:TypeId)(base:Nat)(e:TypeId)(ht:P.underlying t=some (.slice e))(z:Value)(m bytes:Nat)
  (hi:(P.info? e).map (fun i=>(i.zero,i.size,i.bytes))=some (some z,m,bytes)) (hzc:z.cells.size=m) (hm0:0 < m) (hby:bytes<=640) (ao:Option Addr) (hown:w.ownsRow base e m (.slice ao 0 0) 0 [])
  (hbase:base<=w.heap.size) (x:Value) (n:Nat) (cs:List Value) (hx:RC w x n cs) (hcl:cs.length=n * m) (h1:∀ u∈cs,u.oneCell'=true) (hl:n<=100000000000) :
  ∃ v' w',(Builtin.append_ #[t,t] ty #[.slice ao 0 0,x]).run P w=.ok v' w'/\w'.ownsRow base e m v' n cs/\Below w.heap.size w w'/\(v'.ownBlock=(Value.slice ao 0 0).ownBlock\/v'.ownBlock=some w.heap.size):=by
 obtain ⟨v',w',hr,h2,h3,h4⟩:=zcx (P:=P) w t ty base e ht z m bytes hi hzc hm0 hby _ hown hbase x n cs hx hcl h1 hl;refine ⟨v',w',hr,h2,?_,h4⟩;obtain ⟨i0,hi0,hz0,hz1,hz2⟩:=info_parts hi;obtain ⟨a,c,rfl,hc⟩:=hx;have same:w'=w->Below w.heap.size w w':=fun e=>e ▸ Below.refl _ _
 cases a with
 | none =>
  have hx0:cs=[]:=by
   cases cs with
   | nil=>rfl
   | cons y r=>obtain ⟨_,_,h,_⟩:=hc 0 y (by simp);cases h
  subst hx0;have hn:n=0:=by
   rcases Nat.eq_zero_or_pos n with h | h
   ·exact h
   ·have:=Nat.mul_pos h hm0;simp at hcl;omega
  subst hn;have hr2:=run_append_nothing (P:=P) w t t ty e i0 ht hi0 ao 0 0 (Nat.zero_le _) (.slice none 0 c) (Src.ofNil w ht c);rw [hr2] at hr;simp only [Result.ok.injEq] at hr;exact same hr.2.symm
 | some ad =>
  have hnews:∀ j u,cs[j]?=some u->w.cell? (ad.add j)=some u:=fun j u hj=>by
   obtain ⟨g,off,e1,h4⟩:=hc j u hj
   cases e1
   have ha:(⟨g,off,none⟩:Addr).add j=⟨g,off+j,none⟩:=by cases j<;>simp [Addr.add]
   rw [ha,h4]
  subst hz1;by_cases hn:n=0
  ·subst hn;have hx0:cs=[]:=List.eq_nil_of_length_eq_zero (by simpa using hcl);subst hx0;have hs:Src P i0.size t (.slice (some ad) 0 c) 0 [] w:=Src.ofSlice w ht ad 0 c [] (by simp) (by simp) (by simp);have hr2:=run_append_nothing (P:=P) w t t ty e i0 ht hi0 ao 0 0 (Nat.zero_le _) (.slice (some ad) 0 c) hs;rw [hr2] at hr;simp only [Result.ok.injEq] at hr;exact same hr.2.symm
  ·have hs:Src P i0.size t (.slice (some ad) n c) n cs w:=Src.ofSlice w ht ad n c cs hcl hnews h1;have h63:(0+n) * i0.bytes<=100000000000 * 640:=Nat.mul_le_mul (by omega) (by rw [hz2];exact hby);have hr2:=run_append_grow_src (P:=P) w t t ty e i0 z ht hi0 hz0 ao 0 0 [] (by cases ao<;>simp [Builtin.firstCells,loadCells,loadCellsFrom]) (.slice (some ad) n c) n cs hs (by omega) (by omega) (growslice_fits (by omega) (by omega));rw [hr2] at hr;simp only [Result.ok.injEq] at hr;rw [← hr.2];exact (Below.refl _ w).drew.alloc nR _
theorem ze7 {P:Program}(w:World){o:Oper}{a:Act}{K:Act->World->Prop}{Q:Exit->Act->World->Prop}(s x:Operand)(t:TypeId)
  (ho:o.op=.call { callee:=.builtin .append,args:=#[s,x],argTypes:=#[t,t] }) (base:Nat) (e:TypeId) (ht:P.underlying t=some (.slice e)) (z:Value) (m bytes:Nat)
  (hi:(P.info? e).map (fun i=>(i.zero,i.size,i.bytes))=some (some z,m,bytes)) (hzc:z.cells.size=m) (hm0:0 < m) (hby:bytes<=640) (ao:Option Addr) (hs:a.eval s=.slice ao 0 0) (hown:w.ownsRow base e m (.slice ao 0 0) 0 [])
  (hbase:base<=w.heap.size) (u:Value) (hu:a.eval x=u) (n:Nat) (cs:List Value) (hx:RC w u n cs) (hcl:cs.length=n * m) (h1:∀ u∈cs,u.oneCell'=true) (hl:n<=100000000000)
  (h:∀ v' w',w'.ownsRow base e m v' n cs->Below w.heap.size w w'->(v'.ownBlock=(Value.slice ao 0 0).ownBlock\/v'.ownBlock=some w.heap.size)->K (a.put o.dst v') w'):o.wp P a w K Q:=by
 obtain ⟨v',w',hr,h2,h3,h4⟩:=zex (P:=P) w t o.type base e ht z m bytes hi hzc hm0 hby ao hown hbase u n cs hx hcl h1 hl;unfold Oper.wp execOp;simp only [ho,resolve,invoke,builtin,Sem.run_bind,Sem.run_pure,Result.andThen_ok,List.map_toArray,List.map_cons,List.map_nil,hs,hu,hr];exact h v' w' h2 h3 h4
theorem zch {P:Program}(w:World){ops:Array Oper}{o:Oper}{a:Act}{K:Act->World->Prop}{Q:Exit->Act->World->Prop}{E:Prop}(hgd:o.guard=none)(s x:Operand)(t:TypeId)
  (ho:o.op=.call { callee:=.builtin .append,args:=#[s,x],argTypes:=#[t,t] }) (base:Nat) (e:TypeId) (ht:P.underlying t=some (.slice e)) (z:Value) (m bytes:Nat)
  (hi:(P.info? e).map (fun i=>(i.zero,i.size,i.bytes))=some (some z,m,bytes)) (hzc:z.cells.size=m) (hm0:0 < m) (hby:bytes<=640) (ao:Option Addr) (hs:a.eval s=.slice ao 0 0) (hown:w.ownsRow base e m (.slice ao 0 0) 0 [])
  (hbase:base<=w.heap.size) (u:Value) (hu:a.eval x=u) (n:Nat) (cs:List Value) (hx:RC w u n cs) (hcl:cs.length=n * m) (h1:∀ u∈cs,u.oneCell'=true) (hl:n<=100000000000)
  (h:∀ v' w',w'.ownsRow base e m v' n cs->Below w.heap.size w w'->(v'.ownBlock=(Value.slice ao 0 0).ownBlock\/v'.ownBlock=some w.heap.size)->K (a.put o.dst v') w') :
  if Region.wanted o (yielded ops a.tmps)=true then Oper.wp P o a w K Q else E:=by
 rw [if_pos (by simp [Region.wanted,hgd])];exact ze7 w s x t ho base e ht z m bytes hi hzc hm0 hby ao hs hown hbase u hu n cs hx hcl h1 hl h
theorem RFl.rc {w:World}{v:Value}{xs:List Bool}(h:RFl w v xs):RC w v xs.length (fc xs):=by
 obtain ⟨a,c,rfl,h⟩:=h;refine ⟨a,c,rfl,fun j u hj=>?_⟩;have hl:j < xs.length:=by have:=(List.getElem?_eq_some_iff.1 hj).1;rwa [za7] at this
 obtain ⟨g,off,e1,-,e2⟩:=h j hl;have:u=.bool xs[j]:=by simp [fc,hl] at hj;exact hj.symm
 exact ⟨g,off,e1,by rw [e2,this]⟩
theorem RInts.rc {w:World}{v:Value}{xs:List Int}(h:RInts w v xs):RC w v xs.length (ic xs):=by
 obtain ⟨a,c,rfl,h⟩:=h;refine ⟨a,c,rfl,fun j u hj=>?_⟩;have hl:j < xs.length:=by have:=(List.getElem?_eq_some_iff.1 hj).1;rwa [zaf] at this
 obtain ⟨g,off,e1,-,e2⟩:=h j hl;have:u=.int .i64 xs[j]:=by simp [ic,hl] at hj;exact hj.symm
 exact ⟨g,off,e1,by rw [e2,this]⟩
theorem RSl.rc {w:World}{v:Value}{xs:List Sl}(h:RSl w v xs):RC w v xs.length (sc xs):=by
 obtain ⟨a,c,rfl,-,h⟩:=h;refine ⟨a,c,rfl,fun j u hj=>?_⟩;have hl:j < xs.length * 2:=by have:=(List.getElem?_eq_some_iff.1 hj).1;rwa [zb5] at this
 obtain ⟨q,hq⟩:∃ q,q=j / 2:=⟨_,rfl⟩
 have hql:q < xs.length:=by omega
 obtain ⟨g,off,e1,-,e2,e3⟩:=h q hql;have hm:j % 2=0\/j % 2=1:=by omega
 rcases hm with hm | hm
 ·have hj2:j=q * 2:=by omega
  rw [hj2,zg1 xs q hql] at hj;exact ⟨g,off,e1,by rw [hj2,e2];exact hj⟩
 ·have hj2:j=q * 2+1:=by omega
  rw [hj2,zkn xs q hql] at hj;exact ⟨g,off,e1,by rw [hj2,← Nat.add_assoc,e3];exact hj⟩
theorem zm1 (xs:List Bool):∀ u∈fc xs,u.oneCell'=true:=fun u hu=>by simp only [fc,List.mem_map] at hu;obtain ⟨_,-,rfl⟩:=hu;rfl
theorem ic_one (xs:List Int):∀ u∈ic xs,u.oneCell'=true:=fun u hu=>by simp only [ic,List.mem_map] at hu;obtain ⟨_,-,rfl⟩:=hu;rfl
theorem zm2 (xs:List Sl):∀ u∈sc xs,u.oneCell'=true:=by
 induction xs with
 | nil=>intro u hu;cases hu
 | cons s r ih =>
  intro u hu;simp only [sc,List.mem_cons] at hu;rcases hu with rfl | rfl | hu
  ·rfl
  ·rfl
  ·exact ih u hu
theorem zbl {B:Nat}{w0 w w':World}{v:Value}(hb:Below B w0 w)(hB:B<=w.heap.size)(hg:w.grownBy w' v.ownBlock)(hv:∀ k,v.ownBlock=some k->B<=k):Below B w0 w':=hb.grown hg hB hv
end Kit
namespace Kit
def val:List UInt8->Nat
 | []=>0
 | c :: r=>c.toNat % 128+128 * val r
theorem zg3 (l:List UInt8)(c:UInt8):val (l ++ [c])=val l+c.toNat % 128 * 128 ^ l.length:=by
 induction l with
 | nil=>simp [val]
 | cons a r ih =>
  simp only [List.cons_append,val,ih,List.length_cons];rw [Nat.pow_succ,Nat.mul_add,Nat.add_assoc,← Nat.mul_assoc,← Nat.mul_assoc,Nat.mul_comm (c.toNat % 128 * 128 ^ r.length) 128,Nat.mul_assoc]
theorem val_lt (l:List UInt8):val l < 128 ^ l.length:=by
 induction l with
 | nil=>simp [val]
 | cons a r ih =>
  simp only [val,List.length_cons];rw [Nat.pow_succ];have:a.toNat % 128 < 128:=Nat.mod_lt _ (by decide);omega
def rdF:Nat->List UInt8->Nat->Nat->Option (Nat×Nat)
 | 0,_,_,_=>none
 | _+1,[],_,_=>none
 | f+1,c :: r,k,n=>if 128<=c.toNat then rdF f r (k+1) (n+c.toNat % 128 * 128 ^ k)
   else if 1000000000 < n+c.toNat % 128 * 128 ^ k\/(c.toNat=0/\0 < k) then none else some (n+c.toNat % 128 * 128 ^ k,k+1)
def rd (s:ByteArray) (p:Nat):Option (Nat×Nat):=rdF 5 (s.data.toList.drop p) 0 0
theorem vbF_ne (f n:Nat):vbF f n≠[]:=by
 cases f with
 | zero=>simp [vbF]
 | succ f=>unfold vbF;split<;>simp
theorem vbF_last (f:Nat):∀ n,0 < n->n < 128 ^ (f+1)->∀ l c,vbF f n=l ++ [c]->c.toNat≠0:=by
 induction f with
 | zero =>
  intro n h0 h1 l c h;simp only [vbF] at h;have:c=loB n:=by
   cases l with
   | nil=>simpa using h.symm
   | cons a t=>simp at h
  subst this;have h2:n < 128:=by simpa using h1
  simp [loB,UInt8.toNat_ofNat'];omega
 | succ f ih =>
  intro n h0 h1 l c h;by_cases hb:127 < n
  ·rw [zmn f n hb] at h
   cases l with
   | nil=>simp at h;exact absurd h.2 (vbF_ne _ _)
   | cons a t =>
    simp at h;refine ih (n / 128) (by omega) ?_ t c h.2;rw [Nat.pow_succ] at h1;omega
  ·rw [zia _ n (by omega)] at h;have:c=loB n:=by
    cases l with
    | nil=>simpa using h.symm
    | cons a t=>simp at h
   subst this;simp [loB,UInt8.toNat_ofNat'];omega
theorem vbF_val (pre:List UInt8):∀ (f:Nat) (c:UInt8),pre.length<=f->(∀ b∈pre,128<=b.toNat)->c.toNat < 128->(c.toNat≠0\/pre=[]) ->
  vbF f (val (pre ++ [c]))=pre ++ [c]:=by
 induction pre with
 | nil =>
  intro f c _ _ hc _;have hv:val ([] ++ [c])=c.toNat:=by simp [val];omega
  rw [hv,zia _ _ (by omega)];simp [loB]
 | cons b r ih =>
  intro f c hl hb hc hn;have hc0:c.toNat≠0:=by simpa using hn
  cases f with
  | zero=>simp at hl
  | succ f =>
   have hb0:128<=b.toNat:=hb b (by simp);have hb1:b.toNat < 256:=b.toNat_lt;have hpos:0 < val (r ++ [c]):=by
    rw [zg3];have h1:0 < 128 ^ r.length:=Nat.pow_pos (by decide);have h2:0 < c.toNat % 128:=by omega
    have:=Nat.mul_pos h2 h1;omega
   have hv:val (b :: r ++ [c])=b.toNat % 128+128 * val (r ++ [c]):=rfl;rw [hv,zmn f _ (by omega)];have e1:(b.toNat % 128+128 * val (r ++ [c])) / 128=val (r ++ [c]):=by omega
   have e2:hiB (b.toNat % 128+128 * val (r ++ [c]))=b:=by
    unfold hiB;rw [show (b.toNat % 128+128 * val (r ++ [c])) % 128+128=b.toNat by omega];simp
   rw [e1,e2,ih f c (by simpa using hl) (fun x hx=>hb x (by simp [hx])) hc (.inl hc0)];rfl
theorem zlq (pre:List UInt8)(c:UInt8)(hl:pre.length<=8)(hb:∀ b∈pre,128<=b.toNat)(hc:c.toNat < 128) :
  vb (val (pre ++ [c]))=pre ++ [c]↔¬ (c.toNat=0/\0 < pre.length):=by
 constructor
 ·rintro h ⟨h0,hp⟩;by_cases hz:val (pre ++ [c])=0
  ·rw [hz] at h;have:(vb 0).length=1:=rfl;rw [h] at this;simp at this;simp [this] at hp
  ·have hlt:=val_lt (pre ++ [c]);have hle:128 ^ (pre ++ [c]).length<=128 ^ (9+1):=Nat.pow_le_pow_right (by decide) (by simp;omega);exact vbF_last 9 _ (by omega) (by omega) pre c h h0
 ·intro h;refine vbF_val pre 9 c (by omega) hb hc ?_;by_cases h0:c.toNat=0
  ·right
   have:¬ 0 < pre.length:=fun hp=>h ⟨h0,hp⟩;exact List.length_eq_zero_iff.1 (by omega)
  ·exact .inl h0
def AtK (s:ByteArray) (p k n:Nat):Prop :=
 ∃ pre rest:List UInt8,s.data.toList.drop p=pre ++ rest/\pre.length=k/\(∀ b∈pre,128<=b.toNat)/\n=val pre/\rd s p=rdF (5 - k) rest k n
theorem AtK.start (s:ByteArray)(p:Nat):AtK s p 0 0:=⟨[],s.data.toList.drop p,rfl,rfl,by simp,rfl,rfl⟩
theorem AtK.lt {s:ByteArray}{p k n:Nat}(h:AtK s p k n):n < 128 ^ k:=by
 obtain ⟨pre,rest,_,rfl,_,rfl,_⟩:=h;exact val_lt pre
theorem ze8 {s:ByteArray}{p k:Nat}{pre rest:List UInt8}(h:s.data.toList.drop p=pre ++ rest)(hk:pre.length=k)(hlt:p+k < s.size):rest=s[p+k] :: rest.tail:=by
 have h1:(s.data.toList.drop p).drop k=rest:=by rw [h,← hk];simp
 rw [List.drop_drop] at h1;have h2:p+k < s.data.toList.length:=by simpa using hlt
 rw [List.drop_eq_getElem_cons h2] at h1;rw [← h1];rfl
theorem AtK.out {s:ByteArray}{p k n:Nat}(h:AtK s p k n)(hx:s.size<=p+k\/5<=k):rd s p=none:=by
 obtain ⟨pre,rest,hd,hk,_,rfl,hr⟩:=h;rw [hr];by_cases h5:5<=k
 ·rw [show 5 - k=0 by omega];rfl
 ·have hs:s.size<=p+k:=by omega
  have:rest=[]:=by
   have hl:=congrArg List.length hd;simp at hl;apply List.length_eq_zero_iff.1;have:s.data.size=s.size:=rfl;omega
  subst this;rw [show 5 - k=(4 - k)+1 by omega];rfl
theorem AtK.next {s:ByteArray}{p k n:Nat}(h:AtK s p k n)(hlt:p+k < s.size)(h5:k < 5)(hc:128<=(s[p+k]).toNat) :
  AtK s p (k+1) (n+(s[p+k]).toNat % 128 * 128 ^ k):=by
 obtain ⟨pre,rest,hd,hk,hb,rfl,hr⟩:=h;have hrest:=ze8 hd hk hlt;refine ⟨pre ++ [s[p+k]],rest.tail,?_,by simp [hk],?_,?_,?_⟩
 ·rw [hd];simp [List.append_assoc,← hrest]
 ·intro b hb';rcases List.mem_append.1 hb' with h1 | h1
  ·exact hb b h1
  ·simp at h1;subst h1;exact hc
 ·rw [zg3,hk]
 ·rw [hr]
  conv=>lhs;rw [hrest,show 5 - k=(5 - (k+1))+1 by omega]
  rw [rdF,if_pos hc]
theorem AtK.stop {s:ByteArray}{p k n:Nat}(h:AtK s p k n)(hlt:p+k < s.size)(h5:k < 5)(hc:(s[p+k]).toNat < 128) :
  rd s p=if 1000000000 < n+(s[p+k]).toNat % 128 * 128 ^ k\/((s[p+k]).toNat=0/\0 < k) then none else some (n+(s[p+k]).toNat % 128 * 128 ^ k,k+1):=by
 obtain ⟨pre,rest,hd,hk,hb,rfl,hr⟩:=h;have hrest:=ze8 hd hk hlt;rw [hr]
 conv=>lhs;rw [hrest,show 5 - k=(5 - (k+1))+1 by omega]
 rw [rdF,if_neg (by omega)]
theorem zf2 (s:ByteArray)(a b:Nat):(s.extract a b).data.toList=(s.data.toList.drop a).take (b - a):=by
 simp [ByteArray.data_extract,List.take_drop]
theorem AtK.form {s:ByteArray}{p k n:Nat}(h:AtK s p k n)(hlt:p+k < s.size)(h5:k < 5)(hc:(s[p+k]).toNat < 128) :
  vb (n+(s[p+k]).toNat % 128 * 128 ^ k)=(s.extract p (p+k+1)).data.toList↔¬ ((s[p+k]).toNat=0/\0 < k):=by
 obtain ⟨pre,rest,hd,hk,hb,rfl,_⟩:=h;have hrest:=ze8 hd hk hlt;have e:(s.extract p (p+k+1)).data.toList=pre ++ [s[p+k]]:=by
  rw [zf2,hd,hrest,show p+k+1 - p=pre.length+1 by omega,List.take_append];simp [List.take_of_length_le]
 have:=zlq pre s[p+k] (by omega) hb hc;rw [zg3,hk] at this;rw [e];exact this
end Kit
def inB (x a b:Int):Bool:=decide (a<=x/\x<=b)
theorem zao {x a b:Int}(h:inB x a b=true):a<=x/\x<=b:=of_decide_eq_true h
theorem ze9 {x a b:Int}(h:inB x a b=false):x < a\/b < x:=by
 have:=of_decide_eq_false h;omega
theorem zam (x a b:Int)(w:World) :
  Calls Tryz.prog 80 #[.int .i64 x,.int .i64 a,.int .i64 b] w fun e w'=>e=.returned (.bool (inB x a b))/\w'=w:=by
 by_cases h0:a<=x
 ·by_cases h1:x<=b
  ·have hv:inB x a b=true:=by simp [inB,h0,h1]
   have HV:=hide hv;clear hv;go_enter Tryz.func80,Tryz.ntmps80
   go_wp2;go_ret;exact ⟨by rw [HV.out];simp,rfl⟩
  ·have hv:inB x a b=false:=by simp [inB,h1]
   have HV:=hide hv;clear hv;go_enter Tryz.func80,Tryz.ntmps80
   go_wp2;go_ret;exact ⟨by rw [HV.out];simp,rfl⟩
 ·have hv:inB x a b=false:=by simp [inB,h0]
  have HV:=hide hv;clear hv;go_enter Tryz.func80,Tryz.ntmps80
  go_wp2;go_ret;exact ⟨by rw [HV.out];simp,rfl⟩
theorem zaa {w w1:World}(h:Below w.drew.heap.size w.drew w1):Below w.heap.size w w1:=(Below.refl _ w).drew.trans h
def blkAt (bs:List Blk) (x:Int):Blk:=if inB x 1 bs.length=true then bs.getD (x - 1).toNat (false,[],⟨#[]⟩) else (false,[],⟨#[]⟩)
theorem zfa (x:Int)(u v iv bv:Value)(xs ys:List Bool)(is:List Ino)(bs:List Blk)(w0 w:World)(h:DR w0 u v iv bv xs ys is bs)(h0:Below w0.heap.size w0 w)(hl:bs.length<=1048576) :
  Calls Tryz.prog 73 #[.agg #[u,v,iv,bv],.int .i64 x] w fun e w'=>∃ sv,e=.returned (.tuple #[.agg #[.bool (blkAt bs x).1,sv,.string (blkAt bs x).2.2],.bool (inB x 1 bs.length)])/\RSl w0 sv (blkAt bs x).2.1/\Below w.heap.size w w':=by
 have HZ:=hide h0;obtain ⟨a4,c4,rfl,-,hc⟩:=h.k;have HC:=hide hc;clear h hc h0;have HB:Hid (∀ A,Below w.heap.size w (((w.alloc (.cells A 35)).alloc (.cells #[.bool false,.slice none 0 0,.string ⟨#[]⟩] 74)))):=fun A=>((Below.refl _ w).alloc nR _).alloc (by simp) _
 cases hb:inB x 1 bs.length with
 | false =>
  have HX:=hide hb;have e0:blkAt bs x=(false,[],⟨#[]⟩):=by unfold blkAt;rw [hb];rfl
  rw [e0];clear hb e0;go_enter Tryz.func73,Tryz.ntmps73
  go_wp2_with fail
  refine (zam x 1 _ _).mono ?_;rintro e w1 ⟨rfl,rfl⟩;rw [HX.out];go_wp2;refine bodyPost_ret (v:=.tuple #[.agg #[.bool false,.slice none 0 0,.string ⟨#[]⟩],.bool false]) (by simp [results,go_sem]) rfl ⟨_,rfl,?_,?_⟩
  ·exact ⟨none,0,rfl,Nat.le_refl _,fun j hj=>by simp at hj⟩
  ·exact HB.out _
 | true =>
  have HX:=hide hb;obtain ⟨h1,h2⟩:=zao hb;obtain ⟨j,rfl⟩:∃ j:Nat,x=(j:Int)+1:=⟨(x - 1).toNat,by omega⟩
  have hj:j < bs.length:=by omega
  have e0:blkAt bs ((j:Int)+1)=bs[j]:=by
   unfold blkAt;rw [hb,if_pos rfl,show ((j:Int)+1 - 1).toNat=j by omega];simp [hj]
  rw [e0];clear hb e0;obtain ⟨g,off,t,rfl,hg,k0,k1,k2,r1,r2,r3⟩:=HC.out j hj
  replace k0:=(HZ.out.cell (p:=⟨g,off+j * 3,none⟩) hg).trans k0
  replace k1:=(HZ.out.cell (p:=⟨g,off+j * 3+1,none⟩) hg).trans k1
  replace k2:=(HZ.out.cell (p:=⟨g,off+j * 3+2,none⟩) hg).trans k2
  replace hg:g < w.heap.size:=Nat.lt_of_lt_of_le hg HZ.out.size
  obtain ⟨t0,t1,t2⟩:=t;simp only at r1 r2 r3 k0 k1 k2;subst r1 r3;generalize bs[j].1=d at *;generalize bs[j].2.2=tx at *;generalize bs[j].2.1=ss at *;have HR:=hide r2;obtain ⟨pa,pc,rfl,-⟩:=r2;have HB2:Hid (∀ (A B:Array Value),Below w.heap.size w ((w.alloc (.cells A 35)).alloc (.cells B 74))):=fun A B=>((Below.refl _ w).alloc nR _).alloc (by simp) _;have n0:((w.alloc (.cells #[u,v,iv,.slice (some ⟨g,off,none⟩) bs.length c4] 35)).alloc (.cells #[.bool false,.slice none 0 0,.string ⟨#[]⟩] 74)).cell? ⟨g,off+j * 3,none⟩=some (.bool d):=((HB.out _).cell (p:=⟨g,off+j * 3,none⟩) hg).trans k0;have n1:((w.alloc (.cells #[u,v,iv,.slice (some ⟨g,off,none⟩) bs.length c4] 35)).alloc (.cells #[.bool false,.slice none 0 0,.string ⟨#[]⟩] 74)).cell? ⟨g,off+j * 3+1,none⟩=some (.slice pa ss.length pc):=((HB.out _).cell (p:=⟨g,off+j * 3+1,none⟩) hg).trans k1;have n2:((w.alloc (.cells #[u,v,iv,.slice (some ⟨g,off,none⟩) bs.length c4] 35)).alloc (.cells #[.bool false,.slice none 0 0,.string ⟨#[]⟩] 74)).cell? ⟨g,off+j * 3+2,none⟩=some (.string tx):=((HB.out _).cell (p:=⟨g,off+j * 3+2,none⟩) hg).trans k2;have j0:(0:Int)<=(j:Int):=by omega
  have j1:(j:Int) < (bs.length:Int):=by omega
  clear k0 k1 k2;go_enter Tryz.func73,Tryz.ntmps73
  go_wp2_with fail
  refine (zam _ 1 _ _).mono ?_;rintro e w1 ⟨rfl,rfl⟩;rw [HX.out];go_wp2;refine bodyPost_ret (v:=.tuple #[.agg #[.bool d,.slice pa ss.length pc,.string tx],.bool true]) (by simp [results,go_sem]) rfl ⟨_,rfl,?_,?_⟩
  ·exact HR.out
  ·exact HB2.out _ _
theorem zbf {s:ByteArray}(h:0 < s.size):s.toList.isEmpty=false:=by
 rw [List.isEmpty_eq_false_iff,ByteArray.toList_eq];intro e;have h2:s.data.toList.length=s.size:=rfl;rw [e,List.length_nil] at h2;omega
theorem zay {a b:ByteArray}(h:¬ a=b):(a.toList == b.toList)=false:=by
 rw [beq_eq_false_iff_ne,ByteArray.toList_eq,ByteArray.toList_eq];intro e;exact h (ByteArray.ext (Array.toList_inj.1 e))
def SlotIs (ss:List Sl) (nm:ByteArray) (k:Int):Prop:=(k=-1/\(nm.size≠0->∀ (i:Nat) (hi:i < ss.length),¬ ss[i].1=nm))\/∃ (j:Nat) (hj:j < ss.length),k=(j:Int)/\ss[j].1=nm/\nm.size≠0/\∀ (i:Nat) (hi:i < j),¬ (ss[i]'(Nat.lt_trans hi hj)).1=nm
theorem slot_any (d:Bool)(sv:Value)(ss:List Sl)(tx nm:ByteArray)(w:World)(h:RSl w sv ss)(hl:ss.length<=1048576) :
  Calls Tryz.prog 121 #[.agg #[.bool d,sv,.string tx],.string nm] w fun e w'=>∃ k:Int,e=.returned (.int .i64 k)/\SlotIs ss nm k/\Below w.heap.size w w':=by
 have H:=hide h;obtain ⟨a,c,rfl,-,hc⟩:=h;obtain ⟨W0,hW0⟩:∃ W0,w.alloc (.cells #[.bool d,.slice a ss.length c,.string tx] 74)=W0:=⟨_,rfl⟩
 have HB:Hid (Below w.heap.size w W0):=by rw [← hW0];exact (Below.refl _ w).alloc nR _
 have x1:W0.cell? ⟨w.heap.size,1,none⟩=some (.slice a ss.length c):=by rw [← hW0];exact (AtC.new w 74 _).cell 1
 have HC:Hid (∀ (j:Nat) (hj:j < ss.length),∃ g off,a=some ⟨g,off,none⟩/\W0.cell? ⟨g,off+j * 2,none⟩=some (.string ss[j].1)):=fun j hj=>by
  obtain ⟨g,off,e,hg,k0,-⟩:=hc j hj;exact ⟨g,off,e,(HB.out.cell (p:=⟨g,off+j * 2,none⟩) hg).trans k0⟩
 clear hc;by_cases hn:nm=⟨#[]⟩
 ·subst hn;go_enter Tryz.func121,Tryz.ntmps121
  go_wp2;clear hW0;go_loopw [5] (fun i wr=>∃ j:Nat,j<=ss.length/\i=.int .i64 j/\W0=wr) (fun i _=>ss.length - (intOf i).toNat)
  case atStart=>exact ⟨0,Nat.zero_le _,rfl,rfl⟩
  case round =>
   obtain ⟨j,hj,rfl,rfl⟩:=hrel;by_cases hlt:j < ss.length
   ·have j0:(0:Int)<=(j:Int):=by omega
    have j1:(j:Int) < (ss.length:Int):=by omega
    go_wp2;go_roundw
    case rel=>exact ⟨j+1,by omega,by go_num,by first | trivial | rfl⟩
    case measure=>simp [intOf];omega
   ·go_wp2;go_ret;exact ⟨_,rfl,.inl ⟨rfl,fun h=>absurd rfl h⟩,HB.out⟩
 ·have HN:Hid (nm.size≠0):=fun e=>hn (by
   obtain ⟨⟨l⟩⟩:=nm;have:l=[]:=List.length_eq_zero_iff.1 e;subst this;rfl)
  have hne:nm.toList.isEmpty=false:=zbf (Nat.pos_of_ne_zero HN.out);go_enter Tryz.func121,Tryz.ntmps121
  go_wp2;clear hW0;go_loopw [5] (fun i wr=>∃ j:Nat,j<=ss.length/\i=.int .i64 j/\Hid (∀ (q:Nat) (hq:q < ss.length),q < j->¬ ss[q].1=nm)/\W0=wr) (fun i _=>ss.length - (intOf i).toNat)
  case atStart=>exact ⟨0,Nat.zero_le _,rfl,fun _ _ h=>absurd h (Nat.not_lt_zero _),rfl⟩
  case round =>
   obtain ⟨j,hj,rfl,HJ,rfl⟩:=hrel;by_cases hlt:j < ss.length
   ·have j0:(0:Int)<=(j:Int):=by omega
    have j1:(j:Int) < (ss.length:Int):=by omega
    obtain ⟨g,off,rfl,k0⟩:=HC.out j hlt;obtain ⟨t,ht⟩:∃ t,ss[j].1=t:=⟨_,rfl⟩
    rw [ht] at k0;by_cases he:t=nm
    ·have HF:Hid (SlotIs ss nm (j:Int)):=.inr ⟨j,hlt,rfl,ht.trans he,HN.out,fun i hi=>HJ.out i (Nat.lt_trans hi hlt) hi⟩;subst he;clear ht;go_wp2;go_ret;exact ⟨_,rfl,HF.out,HB.out⟩
    ·have hbf:(t.toList == nm.toList)=false:=zay he;have HNE:Hid (∀ (q:Nat) (hq:q < ss.length),q < j+1->¬ ss[q].1=nm):=fun q hq h=>by
      by_cases e:q < j
      ·exact HJ.out q hq e
      ·have:q=j:=by omega
       subst this;rw [ht];exact he
     clear ht;go_wp2;go_roundw
     case rel=>exact ⟨j+1,by omega,by go_num,HNE.out,by first | trivial | rfl⟩
     case measure=>simp [intOf];omega
   ·go_wp2;go_ret;exact ⟨_,rfl,.inl ⟨rfl,fun _ i hi=>HJ.out i hi (by omega)⟩,HB.out⟩
def okR (k l p q:Int):Bool:=decide ((k=0/\l=0/\p=0/\q=0)\/((k=1\/k=2)/\0<=l/\l<=200/\0<=p/\p<=16/\0<=q/\q<=16))
theorem zez {k l p q:Int}(h:(k=0/\l=0/\p=0/\q=0)\/((k=1\/k=2)/\0<=l/\l<=200/\0<=p/\p<=16/\0<=q/\q<=16)):true=okR k l p q:=by simp only [okR];exact (decide_eq_true h).symm
theorem zbg {k l p q:Int}(h:¬ ((k=0/\l=0/\p=0/\q=0)\/((k=1\/k=2)/\0<=l/\l<=200/\0<=p/\p<=16/\0<=q/\q<=16))):false=okR k l p q:=by simp only [okR];exact (decide_eq_false h).symm
theorem okR_z {k l p q:Int}(hk:k=0)(hp:(p != 0)=true):false=okR k l p q:=zbg (by simp at hp;omega)
theorem okR_zq {k l p q:Int}(hk:k=0)(hp:(q != 0)=true):false=okR k l p q:=zbg (by simp at hp;omega)
theorem okR_l {k l p q:Int}(hk:k=0)(hp:(p != 0)=false)(hq:(q != 0)=false):(l == 0)=okR k l p q:=by
 simp at hp hq;subst hk hp hq;by_cases h:l=0
 ·rw [← zez (by omega)];simp [h]
 ·rw [← zbg (by omega)];simp [h]
theorem RInts.two {w:World}{v:Value}{p q:Int}(h:RInts w v [p,q]):∃ g off c,v=.slice (some ⟨g,off,none⟩) 2 c/\g < w.heap.size/\w.cell? ⟨g,off,none⟩=some (.int .i64 p)/\w.cell? ⟨g,off+1,none⟩=some (.int .i64 q):=by
 obtain ⟨a,c,rfl,h⟩:=h;obtain ⟨g,off,rfl,hg,h0⟩:=h 0 (by simp);obtain ⟨g1,off1,e,_,h1⟩:=h 1 (by simp);simp at e;obtain ⟨rfl,rfl⟩:=e;exact ⟨g,off,c,rfl,hg,h0,h1⟩
theorem zlr (k l p q:Int)(v:Value)(w:World)(hv:RInts w v [p,q]) :
  Calls Tryz.prog 76 #[.agg #[.int .i64 k,.int .i64 l,v]] w fun e w'=>e=.returned (.bool (okR k l p q))/\Below w.heap.size w w':=by
 obtain ⟨g,off,c,rfl,hg,c0,c1⟩:=RInts.two hv;clear hv;go_enter Tryz.func76,Tryz.ntmps76
 go_wp2
 ·go_rounds 3
  all_goals (go_ret;refine ⟨zac ?_,by go_grown⟩)
  all_goals first | (refine zez ?_;omega) | (refine zbg ?_;omega) | exact okR_z ‹k=0› ‹(p != 0)=true› | exact okR_zq ‹k=0› ‹(q != 0)=true› | exact okR_l ‹k=0› ‹(p != 0)=false› ‹(q != 0)=false›
 all_goals (go_ret;refine ⟨zac ?_,by go_grown⟩;refine zbg ?_;omega)
theorem zij (k l:Int)(xs:List Int)(v:Value)(w:World)(hv:RInts w v xs)(hn:xs.length≠2) :
  Calls Tryz.prog 76 #[.agg #[.int .i64 k,.int .i64 l,v]] w fun e w'=>e=.returned (.bool false)/\Below w.heap.size w w':=by
 obtain ⟨a,c,rfl,-⟩:=hv;generalize xs.length=n at *;have h1:((n:Int) != 2)=true:=by simp;omega
 go_enter Tryz.func76,Tryz.ntmps76
 go_wp2
 all_goals (go_ret;exact ⟨rfl,by go_grown⟩)
theorem Tryz.u3:Tryz.prog.underlying 3=some (.int .i64):=by kernel_rfl
theorem eqArrD (d:Nat)(p q:Int)(w:World):(Op.equalIn (d+1+1) 161 (.agg #[.int .i64 p,.int .i64 q]) (.agg #[.int .i64 0,.int .i64 0])).run Tryz.prog w=.ok ((p == 0) && (q == 0)) w:=by
 obtain ⟨i0,hi,hz0,hz1,hz2⟩:=info_parts Tryz.i3;unfold Op.equalIn;have hr:∀ a b,(Op.equalIn (d+1) 3 (.int .i64 a) (.int .i64 b)).run Tryz.prog w=.ok (a == b) w:=fun a b=>run_equalIn_int w d 3 .i64 .i64 a b Tryz.u3;simp [run_underlying Tryz.u161,sizeOf,typeInfo,hi,hz1,part,go_sem,hr,Std.Legacy.Range.forIn_eq_forIn_range',List.range',List.forIn_cons];by_cases hp:p=0<;>by_cases hq:q=0<;>simp [hp,hq]
theorem eqArr (p q:Int)(w:World):(Op.equalIn 9999 161 (.agg #[.int .i64 p,.int .i64 q]) (.agg #[.int .i64 0,.int .i64 0])).run Tryz.prog w=.ok ((p == 0) && (q == 0)) w:=eqArrD 9997 p q w
def ptrsR (p q:Int):Bool:=decide (0<=p/\p<=16/\0<=q/\q<=16)
theorem zgb {p q:Int}(h:0<=p/\p<=16/\0<=q/\q<=16):true=ptrsR p q:=by simp only [ptrsR];exact (decide_eq_true h).symm
theorem zfb {p q:Int}(h:¬ (0<=p/\p<=16/\0<=q/\q<=16)):false=ptrsR p q:=by simp only [ptrsR];exact (decide_eq_false h).symm
theorem zkr (k l p q:Int)(w:World) :
  Calls Tryz.prog 160 #[.agg #[.int .i64 k,.int .i64 l,.int .i64 p,.int .i64 q]] w fun e w'=>e=.returned (.bool (ptrsR p q))/\Below w.heap.size w w':=by
 have a0:=arr0 p q;have a1:=arr1 p q;go_enter Tryz.func160,Tryz.ntmps160
 go_wp2
 go_rounds 3
 all_goals (go_ret;refine ⟨zac ?_,by go_grown⟩)
 all_goals first | (refine zgb ?_;omega) | (refine zfb ?_;omega)
theorem zfc {k l p q:Int}(hk:k=1\/k=2)(h0:0<=l)(h1:l<=200):ptrsR p q=okR k l p q:=by
 by_cases h:0<=p/\p<=16/\0<=q/\q<=16
 ·rw [← zgb h,← zez (by omega)]
 ·rw [← zfb h,← zbg (by omega)]
theorem zls (k l p q:Int)(w:World) :
  Calls Tryz.prog 151 #[.agg #[.int .i64 k,.int .i64 l,.int .i64 p,.int .i64 q]] w fun e w'=>e=.returned (.bool (okR k l p q))/\Below w.heap.size w w':=by
 have eA:=eqArr p q;by_cases h0:k=0
 ·subst h0;go_enter Tryz.func151,Tryz.ntmps151
  go_wp2
  all_goals (go_ret;refine ⟨zac ?_,by go_grown⟩)
  all_goals first | (refine zez ?_;omega) | (refine zbg ?_;omega)
 have k0:(k == 0)=false:=by simpa using h0
 by_cases h1:k=1
 ·subst h1;have HP:=hide (zfc (k:=1) (l:=l) (p:=p) (q:=q) (.inl rfl));clear eA k0 h0;go_enter Tryz.func151,Tryz.ntmps151
  go_wp2_with (go_at_call 160;refine (zkr _ _ _ _ _).mono ?_;rintro e w1 ⟨rfl,B1⟩)
  all_goals go_ret
  all_goals first | (refine ⟨zac ?_,by go_grown⟩;refine zbg ?_;omega) | (refine ⟨zac (HP.out ‹_› ‹_›),((Below.refl _ w).alloc nR _).trans (B1.mono (by simp))⟩)
 have k1:(k == 1)=false:=by simpa using h1
 by_cases h2:k=2
 ·subst h2;have HP:=hide (zfc (k:=2) (l:=l) (p:=p) (q:=q) (.inr rfl));clear eA k0 h0 k1 h1;go_enter Tryz.func151,Tryz.ntmps151
  go_wp2_with (go_at_call 160;refine (zkr _ _ _ _ _).mono ?_;rintro e w1 ⟨rfl,B1⟩)
  all_goals go_ret
  all_goals first | (refine ⟨zac ?_,by go_grown⟩;refine zbg ?_;omega) | (refine ⟨zac (HP.out ‹_› ‹_›),((Below.refl _ w).alloc nR _).trans (B1.mono (by simp))⟩)
 have k2:(k == 2)=false:=by simpa using h2
 have HP:=hide (zbg (k:=k) (l:=l) (p:=p) (q:=q) (by omega));clear eA h0 h1 h2;go_enter Tryz.func151,Tryz.ntmps151
 go_wp2;go_ret;exact ⟨zac HP.out,by go_grown⟩
theorem zik (k l p q:Int)(v:Value)(w:World)(hv:RInts w v [p,q]) :
  Calls Tryz.prog 150 #[.agg #[.int .i64 k,.int .i64 l,v]] w fun e w'=>e=.returned (.tuple #[.agg #[.int .i64 k,.int .i64 l,.int .i64 p,.int .i64 q],.bool true])/\Below w.heap.size w w':=by
 obtain ⟨g,off,c,rfl,hg,c0,c1⟩:=RInts.two hv;clear hv;have hg1:g < w.heap.size+1:=by omega
 have hg2:g < w.heap.size+1+1:=by omega
 go_enter Tryz.func150,Tryz.ntmps150
 go_wp2
 go_rounds 3
 refine bodyPost_ret (v:=.tuple #[.agg #[.int .i64 k,.int .i64 l,.int .i64 p,.int .i64 q],.bool true]) (by simp [results,go_sem]) rfl ⟨rfl,by go_grown⟩
theorem zf3 (k l:Int)(xs:List Int)(v:Value)(w:World)(hv:RInts w v xs)(hn:xs.length≠2) :
  Calls Tryz.prog 150 #[.agg #[.int .i64 k,.int .i64 l,v]] w fun e w'=>e=.returned (.tuple #[.agg #[.int .i64 0,.int .i64 0,.int .i64 0,.int .i64 0],.bool false])/\Below w.heap.size w w':=by
 obtain ⟨a,c,rfl,-⟩:=hv;generalize xs.length=n at *;have h1:((n:Int) != 2)=true:=by simp;omega
 go_enter Tryz.func150,Tryz.ntmps150
 go_wp2;refine bodyPost_ret (v:=.tuple #[.agg #[.int .i64 0,.int .i64 0,.int .i64 0,.int .i64 0],.bool false]) (by simp [results,go_sem]) rfl ⟨rfl,by go_grown⟩
theorem zlt (k l p q:Int)(v:Value)(w:World)(hv:RInts w v [p,q]) :
  Calls Tryz.prog 123 #[.agg #[.int .i64 k,.int .i64 l,v]] w fun e w'=>e=.returned (.bool (okR k l p q))/\Below w.heap.size w w':=by
 have HV:=hide hv;obtain ⟨g,off,c,rfl,-⟩:=RInts.two hv;clear hv;go_enter Tryz.func123,Tryz.ntmps123
 go_wp2_with fail
 refine (zik k l p q _ _ (HV.out.alloc _)).mono ?_;rintro e w1 ⟨rfl,B1⟩;have HB1:=hide B1;clear B1;go_wp2_with fail
 refine (zls k l p q _).mono ?_;rintro e w2 ⟨rfl,B2⟩;have HB2:=hide B2;clear B2;go_wp2;go_ret;have h1:Below w.heap.size w w1:=((Below.refl _ w).alloc nR _).trans (HB1.out.mono (by simp));exact ⟨rfl,(h1.alloc h1.size _).trans (HB2.out.mono (by have:=h1.size;simp;omega))⟩
theorem zil (k l:Int)(xs:List Int)(v:Value)(w:World)(hv:RInts w v xs)(hn:xs.length≠2) :
  Calls Tryz.prog 123 #[.agg #[.int .i64 k,.int .i64 l,v]] w fun e w'=>e=.returned (.bool false)/\Below w.heap.size w w':=by
 have HV:=hide hv;obtain ⟨a,c,rfl,-⟩:=hv;go_enter Tryz.func123,Tryz.ntmps123
 go_wp2_with fail
 refine (zf3 k l xs _ _ (HV.out.alloc _) hn).mono ?_;rintro e w1 ⟨rfl,B1⟩;have HB1:=hide B1;clear B1;go_wp2;go_ret;have h1:Below w.heap.size w w1:=((Below.refl _ w).alloc nR _).trans (HB1.out.mono (by simp));exact ⟨rfl,h1.alloc h1.size _⟩
theorem Tryz.u9:Tryz.prog.underlying 9=some .string:=by kernel_rfl
theorem Tryz.u5:Tryz.prog.underlying 5=some (.int .u8):=by kernel_rfl
namespace Kit
def AtT (T:TypeId) (w:World) (b:Nat) (k l:Int) (v:Value):Prop:=w.heap[b]?=some (.cells #[.int .i64 k,.int .i64 l,v] T (0,0))
theorem AtT.lt {T:TypeId}{w:World}{b:Nat}{k l:Int}{v:Value}(h:AtT T w b k l v):b < w.heap.size:=(Array.getElem?_eq_some_iff.1 h).1
theorem AtT.new (T:TypeId)(w:World)(k l:Int)(v:Value):AtT T (w.alloc (.cells #[.int .i64 k,.int .i64 l,v] T)) w.heap.size k l v:=zc6 w _
theorem AtT.alloc {T:TypeId}{w:World}{b:Nat}{k l:Int}{v:Value}(h:AtT T w b k l v)(o:Obj):AtT T (w.alloc o) b k l v:=(Below.heap_alloc _ _ _ h.lt).trans h
theorem AtT.below {T:TypeId}{w w':World}{b B:Nat}{k l:Int}{v:Value}(h:AtT T w b k l v)(hb:Below B w w')(hB:b < B):AtT T w' b k l v:=(hb.block b hB).trans h
theorem AtT.grown {T:TypeId}{w w':World}{b:Nat}{k l:Int}{v:Value}{row:Option Nat}(h:AtT T w b k l v)(hg:w.grownBy w' row)(hr:row≠some b):AtT T w' b k l v:=(hg.block b h.lt (fun e=>hr e.symm)).trans h
theorem AtT.cells {T:TypeId}{w:World}{b:Nat}{k l:Int}{v:Value}(h:AtT T w b k l v) :
  w.cell? ⟨b,0,none⟩=some (.int .i64 k)/\w.cell? ⟨b,1,none⟩=some (.int .i64 l)/\w.cell? ⟨b,2,none⟩=some v:=by
 have h':w.heap[b]?=some (.cells #[.int .i64 k,.int .i64 l,v] T (0,0)):=h;exact ⟨by simp [World.cell?,h'],by simp [World.cell?,h'],by simp [World.cell?,h']⟩
theorem RInts.drew {w:World}{v:Value}{xs:List Int}(h:RInts w v xs):RInts w.drew v xs:=h.below (Below.refl w.heap.size w).drew nR
end Kit
def okL (k l:Int):List Int->Bool
 | [p,q]=>okR k l p q
 | _=>false
theorem zim (k l:Int)(xs:List Int)(h:xs.length≠2):okL k l xs=false:=by
 match xs,h with
 | [],_=>rfl
 | [_],_=>rfl
 | [_,_],h=>exact absurd rfl h
 | _ :: _ :: _ :: _,_=>rfl
theorem two_or (xs:List Int):(∃ p q,xs=[p,q])\/xs.length≠2:=by
 match xs with
 | []=>right;simp
 | [_]=>right;simp
 | [p,q]=>left;exact ⟨p,q,rfl⟩
 | _ :: _ :: _ :: _=>right;simp
theorem zfd (k l:Int)(xs:List Int)(v:Value)(w:World)(hv:RInts w v xs) :
  Calls Tryz.prog 76 #[.agg #[.int .i64 k,.int .i64 l,v]] w fun e w'=>e=.returned (.bool (okL k l xs))/\Below w.heap.size w w':=by
 rcases two_or xs with ⟨p,q,rfl⟩ | h
 ·exact zlr k l p q v w hv
 ·rw [zim k l xs h];exact zij k l xs v w hv h
theorem zfe (k l:Int)(xs:List Int)(v:Value)(w:World)(hv:RInts w v xs) :
  Calls Tryz.prog 123 #[.agg #[.int .i64 k,.int .i64 l,v]] w fun e w'=>e=.returned (.bool (okL k l xs))/\Below w.heap.size w w':=by
 rcases two_or xs with ⟨p,q,rfl⟩ | h
 ·exact zlt k l p q v w hv
 ·rw [zim k l xs h];exact zil k l xs v w hv h
namespace Kit
def chN (c:Nat):Bool:=decide ((97<=c/\c<=122)\/(48<=c/\c<=57))
def zbe (s:ByteArray):Bool:=decide ((1<=s.size/\s.size<=6)/\∀ (j:Nat) (h:j < s.size),chN (s[j]).toNat=true)
theorem zgc {s:ByteArray}(h:s.size < 1\/6 < s.size):false=zbe s:=by
 unfold zbe;exact (decide_eq_false (by omega)).symm
theorem zgd {s:ByteArray}{j c:Nat}(h:j < s.size)(hc:(s[j]).toNat=c)(hb:¬ ((97<=c/\c<=122)\/(48<=c/\c<=57))):false=zbe s:=by
 unfold zbe;refine (decide_eq_false ?_).symm;rintro ⟨_,h2⟩;have:=h2 j h;rw [hc] at this;exact hb (of_decide_eq_true this)
theorem zge {s:ByteArray}(h:1<=s.size/\s.size<=6)(ha:∀ (j:Nat) (h:j < s.size),chN (s[j]).toNat=true):true=zbe s:=by
 unfold zbe;exact (decide_eq_true ⟨h,ha⟩).symm
theorem zb6 {s:ByteArray}(h:zbe s=true):1<=s.size/\s.size<=6:=(of_decide_eq_true h).1
def upTo (s:ByteArray) (j:Nat):Prop:=∀ (i:Nat) (h:i < s.size),i < j->chN (s[i]).toNat=true
theorem zin (s:ByteArray):upTo s 0:=fun _ _ h=>absurd h (Nat.not_lt_zero _)
theorem zio {s:ByteArray}{j c:Nat}(hu:upTo s j)(h:j < s.size)(hc:(s[j]).toNat=c)(hg:(97<=c/\c<=122)\/(48<=c/\c<=57)):upTo s (j+1):=fun i hi hlt=>by
 by_cases he:i=j
 ·subst he;rw [hc];exact decide_eq_true hg
 ·exact hu i hi (by omega)
theorem zks {s:ByteArray}{j:Nat}(hu:upTo s j)(h:s.size<=j):∀ (j:Nat) (h:j < s.size),chN (s[j]).toNat=true:=fun i hi=>hu i hi (by omega)
theorem zc7 {s:ByteArray}(h:s.size=0):s.toList.isEmpty=true:=by
 rw [List.isEmpty_iff,ByteArray.toList_eq,← List.length_eq_zero_iff];exact h
theorem zbf {s:ByteArray}(h:0 < s.size):s.toList.isEmpty=false:=by
 rw [List.isEmpty_eq_false_iff,ByteArray.toList_eq];intro e;have h2:s.data.toList.length=s.size:=rfl;rw [e,List.length_nil] at h2;omega
end Kit
theorem zip (s:ByteArray)(w:World)(hs:s.size<=1048576) :
  Calls Tryz.prog 120 #[.string s] w fun e w'=>e=.returned (.bool (zbe s))/\Below w.heap.size w w':=by
 obtain ⟨r,hr⟩:∃ r,zbe s=r:=⟨_,rfl⟩
 have HR:=hide hr;rw [hr];clear hr;go_enter Tryz.func120,Tryz.ntmps120
 go_wp2
 go_loop [3] (fun i=>∃ j:Nat,j<=s.size/\i=.int .i64 j/\Hid (upTo s j)) (fun i=>s.size - (intOf i).toNat)
 case atStart=>exact ⟨0,Nat.zero_le _,rfl,zin s⟩
 case round =>
  obtain ⟨j,hj,rfl,HU⟩:=hrel;by_cases hlt:j < s.size
  ·obtain ⟨c,hc⟩:∃ c:Nat,(s[j]).toNat=c:=⟨_,rfl⟩
   have hc1:c < 256:=by rw [← hc];exact (s[j]).toNat_lt
   have HC:=hide hc;have j0:(0:Int)<=(j:Int):=by omega
   have j1:(j:Int) < (s.size:Int):=by omega
   go_wp2
   all_goals first | (go_ret;refine ⟨zac ?_,Below.refl _ _⟩;rw [← HR.out];exact zgd hlt HC.out (by omega)) | skip
   all_goals go_round
   all_goals first | (simp [intOf];omega) | exact ⟨j+1,by omega,by go_num,zio HU.out hlt HC.out (by omega)⟩
  ·go_wp2_with (go_at_call 80;refine (zam _ _ _ _).mono ?_;rintro e w1 ⟨rfl,rfl⟩)
   go_ret;refine ⟨zac ?_,Below.refl _ _⟩;rw [← HR.out];by_cases h:1<=s.size/\s.size<=6
   ·rw [← zge h (zks HU.out (by omega))];simp [inB];omega
   ·rw [← zgc (by omega)];simp [inB];omega
theorem zj1 (s:ByteArray)(w:World)(h0:1<=s.size)(h6:s.size<=6) :
  Calls Tryz.prog 174 #[.string s] w fun e w'=>e=.returned (.bool (zbe s))/\Below w.heap.size w w':=by
 obtain ⟨r,hr⟩:∃ r,zbe s=r:=⟨_,rfl⟩
 have HR:=hide hr;rw [hr];clear hr;have he:=zbf (s:=s) (by omega);have h7:decide (6 < (s.size:Int))=false:=by simp;omega
 have hbs:=fun W=>run_bytes_of_string (P:=Tryz.prog) W 9 175 5 s Tryz.underlying9 Tryz.underlying175 Tryz.underlying5;go_enter Tryz.func174,Tryz.ntmps174
 go_wp2;go_loopw [4,15] (fun _ i wr=>∃ j:Nat,j<=s.size/\i=.int .i64 j/\Hid (upTo s j)/\Below w.heap.size w wr/\Lies wr w.heap.size s) (fun _ i _=>s.size - (intOf i).toNat)
 case atStart=>exact ⟨0,Nat.zero_le _,rfl,zin s,((Below.refl _ w).alloc nR _).drew,(lies_new w s _ _ _).of_heap rfl⟩
 case round =>
  obtain ⟨j,hj,rfl,HU,hb,hlies⟩:=hrel;by_cases hlt:j < s.size
  ·obtain ⟨c,hc⟩:∃ c:Nat,(s[j]).toNat=c:=⟨_,rfl⟩
   have hc1:c < 256:=by rw [← hc];exact (s[j]).toNat_lt
   have HC:=hide hc;have hcell:=hlies.cell j hlt;rw [hc] at hcell;clear hc;have HL:=hide hlies;have HB:=hide hb;clear hlies hb;have j0:(0:Int)<=(j:Int):=by omega
   have j1:(j:Int) < (s.size:Int):=by omega
   go_wp2
   all_goals first | (go_ret;refine ⟨zac ?_,HB.out⟩;rw [← HR.out];exact zgd hlt HC.out (by omega)) | skip
   all_goals go_roundw
   all_goals first | (simp [intOf];omega) | exact ⟨j+1,by omega,by go_num,zio HU.out hlt HC.out (by omega),HB.out,HL.out⟩
  ·have HB:=hide hb;clear hlies hb;go_wp2;go_ret;refine ⟨zac ?_,HB.out⟩;rw [← HR.out];exact zge ⟨h0,h6⟩ (zks HU.out (by omega))
theorem ziq (s:ByteArray)(w:World)(h:s.size < 1\/6 < s.size) :
  Calls Tryz.prog 174 #[.string s] w fun e w'=>e=.returned (.bool (zbe s))/\Below w.heap.size w w':=by
 rw [← zgc h];by_cases h0:s.size < 1
 ·have he:=zc7 (s:=s) (by omega);go_enter Tryz.func174,Tryz.ntmps174
  go_wp2;go_ret;exact ⟨rfl,Below.refl _ _⟩
 ·have he:=zbf (s:=s) (by omega);have h6:6 < s.size:=by omega
  go_enter Tryz.func174,Tryz.ntmps174
  go_wp2;go_ret;exact ⟨rfl,Below.refl _ _⟩
theorem zir (s:ByteArray)(w:World) :
  Calls Tryz.prog 174 #[.string s] w fun e w'=>e=.returned (.bool (zbe s))/\Below w.heap.size w w':=by
 by_cases h:1<=s.size/\s.size<=6
 ·exact zj1 s w h.1 h.2
 ·exact ziq s w (by omega)
namespace fnExactNameOk
end fnExactNameOk
namespace Kit
def plF (name:ByteArray):Nat->List Sl->Int
 | _,[]=>-1
 | k,s :: r=>if s.1=name then (k:Int) else plF name (k+1) r
def zcv (xs:List Sl) (name:ByteArray):Int:=if name.size=0 then -1 else plF name 0 xs
theorem zcy (xs:List Sl){name:ByteArray}(h:name.size=0):zcv xs name=-1:=if_pos h
theorem zcz (xs:List Sl){name:ByteArray}(h:name.size≠0):zcv xs name=plF name 0 (xs.drop 0):=if_neg h
theorem pl_hit {R:Int}{xs:List Sl}{name:ByteArray}{j:Nat}(h:j < xs.length)(hp:R=plF name j (xs.drop j))(hq:xs[j].1=name):R=(j:Int):=by
 rw [hp,List.drop_eq_getElem_cons h,plF,if_pos hq]
theorem zm3 {R:Int}{xs:List Sl}{name:ByteArray}{j:Nat}(h:j < xs.length)(hp:R=plF name j (xs.drop j))(hq:¬ xs[j].1=name):R=plF name (j+1) (xs.drop (j+1)):=by
 rw [hp,List.drop_eq_getElem_cons h,plF,if_neg hq]
theorem pl_end {R:Int}{xs:List Sl}{name:ByteArray}{j:Nat}(h:xs.length<=j)(hp:R=plF name j (xs.drop j)):R=-1:=by
 rw [hp,List.drop_of_length_le h,plF]
theorem zca {a b:ByteArray}(h:a=b):(a.toList == b.toList)=true:=by rw [h];simp
theorem zay {a b:ByteArray}(h:¬ a=b):(a.toList == b.toList)=false:=by
 rw [beq_eq_false_iff_ne,ByteArray.toList_eq,ByteArray.toList_eq];intro e;exact h (ByteArray.ext (Array.toList_inj.1 e))
theorem zm4 {a b:Int}(h:a=b):Ending.returned (.int .i64 a)=.returned (.int .i64 b):=by rw [h]
end Kit
theorem zis (v:Value)(xs:List Sl)(name:ByteArray)(w:World)(hv:RSl w v xs)(hl:xs.length<=1048576)(hn:name.size≠0) :
  Calls Tryz.prog 162 #[v,.string name] w fun e w'=>e=.returned (.int .i64 (zcv xs name))/\Below w.heap.size w w':=by
 obtain ⟨a,c,rfl,-,hc⟩:=hv;have HC:=hide hc;clear hc;have HR:=hide (zcz xs hn);obtain ⟨R,hR⟩:∃ R,zcv xs name=R:=⟨_,rfl⟩
 rw [hR] at HR ⊢;clear hR;have he:=zbf (s:=name) (by omega);go_enter Tryz.func162,Tryz.ntmps162
 go_wp2;go_loopw [5,6,11] (fun _ _ i wr=>∃ j:Nat,j<=xs.length/\i=.int .i64 j/\Hid (R=plF name j (xs.drop j))/\Below w.heap.size w wr) (fun _ _ i _=>xs.length - (intOf i).toNat)
 case atStart=>exact ⟨0,Nat.zero_le _,rfl,HR,Below.refl _ _⟩
 case round =>
  obtain ⟨j,hj,rfl,HP,hb⟩:=hrel;by_cases hlt:j < xs.length
  ·obtain ⟨g,off,rfl,hg,k1,k2⟩:=HC.out j hlt;have q1:=(hb.cell (p:=⟨g,off+j * 2,none⟩) hg).trans k1;have q2:=(hb.cell (p:=⟨g,off+j * 2+1,none⟩) hg).trans k2;have hsz:=hb.size;have j0:(0:Int)<=(j:Int):=by omega
   have j1:(j:Int) < (xs.length:Int):=by omega
   obtain ⟨t,ht⟩:∃ t,xs[j].1=t:=⟨_,rfl⟩
   obtain ⟨z,hz⟩:∃ z,xs[j].2=z:=⟨_,rfl⟩
   rw [ht] at q1;rw [hz] at q2;have HT:=hide ht;have HB:=hide hb;clear k1 k2 ht hz hb;by_cases hq:t=name
   ·have b1:=zca hq;have HH:=hide (pl_hit hlt HP.out (HT.out.trans hq));clear hq;go_wp2;go_ret;exact ⟨zm4 HH.out.symm,HB.out.alloc hsz _⟩
   ·have b1:=zay hq;have HH:=hide (zm3 hlt HP.out (by rw [HT.out];exact hq));go_wp2;go_roundw
    case rel=>exact ⟨j+1,by omega,by go_num,HH,HB.out.alloc hsz _⟩
    case measure=>simp [intOf];omega
  ·have HH:=hide (pl_end (by omega) HP.out);have HB:=hide hb;clear hb;go_wp2;go_ret;exact ⟨zm4 HH.out.symm,HB.out⟩
theorem zit (v:Value)(xs:List Sl)(name:ByteArray)(w:World)(hv:RSl w v xs)(hn:name.size=0) :
  Calls Tryz.prog 162 #[v,.string name] w fun e w'=>e=.returned (.int .i64 (zcv xs name))/\Below w.heap.size w w':=by
 obtain ⟨a,c,rfl,-⟩:=hv;rw [zcy xs hn];have he:=zc7 (s:=name) hn;go_enter Tryz.func162,Tryz.ntmps162
 go_wp2;go_ret;exact ⟨rfl,Below.refl _ _⟩
theorem zj2 (v:Value)(xs:List Sl)(name:ByteArray)(w:World)(hv:RSl w v xs)(hl:xs.length<=1048576) :
  Calls Tryz.prog 162 #[v,.string name] w fun e w'=>e=.returned (.int .i64 (zcv xs name))/\Below w.heap.size w w':=by
 by_cases hn:name.size=0
 ·exact zit v xs name w hv hn
 ·exact zis v xs name w hv hl hn
namespace Kit
def zdo (s:Sl):Bool:=decide ((s.1.size=0/\s.2=0)\/(zbe s.1=true/\1<=s.2/\s.2<=8))
theorem zdk {t:ByteArray}{z:Int}(h:(t.size=0/\z=0)\/(zbe t=true/\1<=z/\z<=8)):true=zdo (t,z):=(decide_eq_true h).symm
theorem zen {t:ByteArray}{z:Int}(h:¬ ((t.size=0/\z=0)\/(zbe t=true/\1<=z/\z<=8))):false=zdo (t,z):=(decide_eq_false h).symm
theorem zff {t:ByteArray}(h:t.size=0):t=⟨#[]⟩:=ByteArray.ext (Array.eq_empty_of_size_eq_zero h)
end Kit
theorem zlu (t:ByteArray)(z:Int)(w:World) :
  Calls Tryz.prog 161 #[.agg #[.string t,.int .i64 z]] w fun e w'=>e=.returned (.bool (zdo (t,z)))/\Below w.heap.size w w':=by
 obtain ⟨r,hr⟩:∃ r,zdo (t,z)=r:=⟨_,rfl⟩
 have HR:=hide hr;rw [hr];clear hr;by_cases h:t.size=0/\z=0
 ·obtain ⟨h0,rfl⟩:=h;have:=zff h0;subst this;have e1:r=true:=by rw [← HR.out];rfl
  subst e1;go_enter Tryz.func161,Tryz.ntmps161
  go_wp2;go_ret;exact ⟨rfl,by go_grown⟩
 ·obtain ⟨n,hn⟩:∃ n,zbe t=n:=⟨_,rfl⟩
  have C:=hide (fun W=>zir t W);rw [hn] at C;have HN:=hide hn;have HH:=hide h;have he:¬ (t.toList=[]/\z=0):=fun e=>h ⟨by have h2:t.data.toList.length=t.size:=rfl;rw [← h2,← ByteArray.toList_eq,e.1];rfl,e.2⟩;have fin:∀ b:Bool,(b=true↔(n=true/\1<=z/\z<=8))->b=r:=by
   intro b hb;rw [← HR.out]
   cases b with
   | true=>exact zdk (.inr ⟨by rw [HN.out];exact (hb.1 rfl).1,(hb.1 rfl).2⟩)
   | false=>exact zen (by rintro (h1 | h1);exact HH.out h1;rw [HN.out] at h1;have:=hb.2 h1;cases this)
  have HF:=hide fin;have HE:=hide he;clear hn h fin he
  cases n with
  | true =>
   go_enter Tryz.func161,Tryz.ntmps161
   go_wp2_with (go_at_call 174;refine (C.out _).mono ?_;rintro e w1 ⟨rfl,hb1⟩;obtain ⟨q0,q1,q2⟩:=AtC.two ((AtC.new w 100 #[.string t,.int .i64 z]).over hb1))
   all_goals first | exact absurd ⟨‹t.toList=[]›,‹z=0›⟩ HE.out | (go_ret;refine ⟨zac (HF.out _ ?_),((Below.refl _ w).alloc nR _).trans (hb1.mono (by simp))⟩;simp;try omega)
  | false =>
   go_enter Tryz.func161,Tryz.ntmps161
   go_wp2_with (go_at_call 174;refine (C.out _).mono ?_;rintro e w1 ⟨rfl,hb1⟩)
   all_goals first | exact absurd ⟨‹t.toList=[]›,‹z=0›⟩ HE.out | (go_ret;refine ⟨zac (HF.out _ ?_),((Below.refl _ w).alloc nR _).trans (hb1.mono (by simp))⟩;simp;try omega)
namespace Kit
def okF:List Sl->List Sl->Bool
 | _,[]=>true
 | ahead,s :: r=>zdo s && decide (zcv ahead s.1 < 0) && okF (ahead ++ [s]) r
def za1 (xs:List Sl):Bool:=decide (xs.length=4) && okF [] xs
def za4 (d:Bool) (xs:List Sl) (t:ByteArray):Bool:=if d then decide (t.size=0) && za1 xs else decide (xs.length=0/\t.size<=16)
theorem zkt {xs:List Sl}(h:xs.length=4):za1 xs=okF (xs.take 0) (xs.drop 0):=by simp [za1,h]
theorem zku {xs:List Sl}(h:xs.length≠4):za1 xs=false:=by simp [za1,h]
theorem zm5 {R:Bool}{xs:List Sl}{j:Nat}(h:j < xs.length)(hp:R=okF (xs.take j) (xs.drop j))(h1:zdo xs[j]=true)(h2:zcv (xs.take j) xs[j].1 < 0):R=okF (xs.take (j+1)) (xs.drop (j+1)):=by
 rw [hp,List.drop_eq_getElem_cons h,okF,h1,decide_eq_true h2,List.take_succ_eq_append_getElem h];rfl
theorem ok_bad {R:Bool}{xs:List Sl}{j:Nat}(h:j < xs.length)(hp:R=okF (xs.take j) (xs.drop j))(h1:zdo xs[j]=false):R=false:=by
 rw [hp,List.drop_eq_getElem_cons h,okF,h1];rfl
theorem zkv {R:Bool}{xs:List Sl}{j:Nat}(h:j < xs.length)(hp:R=okF (xs.take j) (xs.drop j))(h2:¬ zcv (xs.take j) xs[j].1 < 0):R=false:=by
 rw [hp,List.drop_eq_getElem_cons h,okF,decide_eq_false h2];simp
theorem ok_end {R:Bool}{xs:List Sl}{j:Nat}(h:xs.length<=j)(hp:R=okF (xs.take j) (xs.drop j)):R=true:=by
 rw [hp,List.drop_of_length_le h,okF]
theorem RSl.take {w:World}{a:Option Addr}{c:Nat}{xs:List Sl}(h:RSl w (.slice a xs.length c) xs)(j:Nat)(hj:j<=xs.length):RSl w (.slice a j c) (xs.take j):=by
 obtain ⟨a',c',e,hcap,h⟩:=h;simp only [Value.slice.injEq] at e;obtain ⟨rfl,-,rfl⟩:=e;have hl:(xs.take j).length=j:=by simp;omega
 refine ⟨a,c,by rw [hl],by omega,fun i hi=>?_⟩;rw [hl] at hi;obtain ⟨g,off,e,hg,k1,k2⟩:=h i (by omega);exact ⟨g,off,e,hg,by simpa using k1,by simpa using k2⟩
end Kit
theorem zfg (v:Value)(xs:List Sl)(w:World)(hv:RSl w v xs)(hl:xs.length=4) :
  Calls Tryz.prog 152 #[v] w fun e w'=>e=.returned (.bool (za1 xs))/\Below w.heap.size w w':=by
 have HV:=hide hv;obtain ⟨a,c,rfl,hcap,hc⟩:=hv;have HC:=hide hc;have HL:=hide hl;clear hc;have HR:=hide (zkt hl);obtain ⟨R,hR⟩:∃ R,za1 xs=R:=⟨_,rfl⟩
 rw [hR] at HR ⊢;rw [hl] at HV hcap ⊢;clear hR hl;go_enter Tryz.func152,Tryz.ntmps152
 go_wp2;go_loopw [3,4,10] (fun _ _ i wr=>∃ j:Nat,j<=4/\i=.int .i64 j/\Hid (R=okF (xs.take j) (xs.drop j))/\Below w.heap.size w wr) (fun _ _ i _=>4 - (intOf i).toNat)
 case atStart=>exact ⟨0,Nat.zero_le _,rfl,HR,Below.refl _ _⟩
 case round =>
  obtain ⟨j,hj,rfl,HP,hb⟩:=hrel;by_cases hlt:j < 4
  ·have hlx:j < xs.length:=by rw [HL.out];exact hlt
   obtain ⟨g,off,rfl,hg,k1,k2⟩:=HC.out j hlx;have q1:=(hb.cell (p:=⟨g,off+j * 2,none⟩) hg).trans k1;have q2:=(hb.cell (p:=⟨g,off+j * 2+1,none⟩) hg).trans k2;have hsz:=hb.size;have j0:(0:Int)<=(j:Int):=by omega
   have j1:(j:Int) < 4:=by omega
   have jc:(j:Int)<=(c:Int):=by omega
   have HTK:=hide ((show RSl w (.slice (some ⟨g,off,none⟩) xs.length c) xs by rw [HL.out];exact HV.out).take j (by omega));have C1:=hide (fun W=>zlu xs[j].1 xs[j].2 W);have C2:=hide (fun W h=>zj2 (.slice (some ⟨g,off,none⟩) j c) (xs.take j) xs[j].1 W h (by simp;have:=HL.out;omega));have HBAD:=hide (ok_bad hlx HP.out);have HTW:=hide (zkv hlx HP.out);have HNX:=hide (zm5 hlx HP.out);obtain ⟨t,ht⟩:∃ t,xs[j].1=t:=⟨_,rfl⟩
   obtain ⟨z,hz⟩:∃ z,xs[j].2=z:=⟨_,rfl⟩
   obtain ⟨r1,hr1⟩:∃ r,zdo xs[j]=r:=⟨_,rfl⟩
   obtain ⟨r2,hr2⟩:∃ r,zcv (xs.take j) xs[j].1=r:=⟨_,rfl⟩
   have e1:(xs[j].1,xs[j].2)=xs[j]:=rfl;rw [e1,hr1] at C1;rw [hr2] at C2 HTW HNX;rw [hr1] at HBAD HNX;rw [ht] at q1 C1 C2;rw [hz] at q2 C1;have HB:=hide hb;clear k1 k2 ht hz hr1 hr2 e1 hb HP hlx;have HS:Hid (∀ w',Below (wr.heap.size+1) (wr.alloc (.cells #[.string t,.int .i64 z] 100)) w'->w'.cell? ⟨wr.heap.size,0,none⟩=some (.string t)/\w'.cell? ⟨wr.heap.size,1,none⟩=some (.int .i64 z)):=fun w' hb=>by
    obtain ⟨e0,e1,_⟩:=((AtC.new wr 100 #[.string t,.int .i64 z]).below hb (by simp)).two;exact ⟨e0,e1⟩
   have HBW:=hide (HB.out.alloc hsz (.cells #[.string t,.int .i64 z] 100))
   cases r1 with
   | false =>
    go_wp2_with fail
    first | (go_region_with (go_at_call 161;refine (C1.out _).mono ?_;rintro e w6 ⟨rfl,B6⟩)) | fail
    all_goals have HBB:=hide (HBW.out.trans ((zaa B6).mono (by simp;omega)))
    all_goals have HQ:=hide (HBAD.out trivial)
    all_goals clear B6
    all_goals go_wp2
    all_goals go_ret
    all_goals exact ⟨zac HQ.out.symm,HBB.out⟩
   | true =>
    go_wp2_with fail
    go_region_held3 (fun w'=>w'.cell? ⟨wr.heap.size,0,none⟩=some (.string t)/\w'.cell? ⟨wr.heap.size,1,none⟩=some (.int .i64 z)) (first | exact HS.out _ bR.drew | exact HS.out _ (by simpa using zaa B6) | exact HS.out _ (by simpa using ((zaa B6).trans (B7.mono (zaa B6).size)))) (first | (go_at_call 161;refine (C1.out _).mono ?_;rintro e w6 ⟨rfl,B6⟩) | (go_at_call 162;refine (C2.out _ (HTK.out.below (HBW.out.trans ((zaa B6).mono (by simp;omega))) nR)).mono ?_;rintro e w7 ⟨rfl,B7⟩))
    have HBB:=hide (HBW.out.trans (((zaa B6).trans (B7.mono (zaa B6).size)).mono (by simp;omega)));clear B6 B7;by_cases hr:0<=r2
    ·have HQ:=hide (HTW.out hr);go_wp2;go_ret;exact ⟨zac HQ.out.symm,HBB.out⟩
    ·have HQ:=hide (HNX.out trivial (by omega));go_wp2;go_roundw
     case rel=>exact ⟨j+1,by omega,by go_num,HQ,HBB.out⟩
     case measure=>simp [intOf];omega
  ·have HH:=hide (ok_end (by rw [HL.out];omega) HP.out);have HB:=hide hb;clear hb;go_wp2;go_ret;exact ⟨zac HH.out.symm,HB.out⟩
namespace Kit
theorem zdl (xs:List Sl)(t:ByteArray)(h:t.size=0):za4 true xs t=za1 xs:=by simp [za4,h]
theorem zeo (xs:List Sl)(t:ByteArray)(h:t.size≠0):za4 true xs t=false:=by simp [za4,h]
theorem zep (xs:List Sl)(t:ByteArray):za4 false xs t=decide (xs.length=0/\t.size<=16):=by simp [za4]
theorem zm6 {xs:List Sl}{i j:Nat}(h:i < (xs.take j).length):(xs.take j)[i]=xs[i]'(by simp at h;omega):=by simp
theorem pl_hit' {R:Int}{xs:List Sl}{name:ByteArray}{j k:Nat}(h:k < j)(hx:j < xs.length)(hp:R=plF name k ((xs.take j).drop k))(hq:(xs[k]'(by omega)).1=name):R=(k:Int) :=
 pl_hit (by simp;omega) hp (by rw [zm6];exact hq)
theorem pl_next' {R:Int}{xs:List Sl}{name:ByteArray}{j k:Nat}(h:k < j)(hx:j < xs.length)(hp:R=plF name k ((xs.take j).drop k))(hq:¬ (xs[k]'(by omega)).1=name):R=plF name (k+1) ((xs.take j).drop (k+1)) :=
 zm3 (by simp;omega) hp (by rw [zm6];exact hq)
theorem pl_end' {R:Int}{xs:List Sl}{name:ByteArray}{j k:Nat}(h:j<=k)(hp:R=plF name k ((xs.take j).drop k)):R=-1 :=
 pl_end (by simp;omega) hp
end Kit
theorem zf4 (v:Value)(xs:List Sl)(w:World)(hv:RSl w v xs) :
  Calls Tryz.prog 152 #[v] w fun e w'=>e=.returned (.bool (za1 xs))/\Below w.heap.size w w':=by
 by_cases hl:xs.length=4
 ·exact zfg v xs w hv hl
 ·rw [zku hl];obtain ⟨a,c,rfl,-⟩:=hv;generalize xs.length=n at *;have h1:((n:Int) != 4)=true:=by simp;omega
  go_enter Tryz.func152,Tryz.ntmps152
  go_wp2;go_ret;exact ⟨rfl,Below.refl _ _⟩
theorem zfh (d:Bool)(v:Value)(t:ByteArray)(xs:List Sl)(w:World)(hv:RSl w v xs) :
  Calls Tryz.prog 124 #[.agg #[.bool d,v,.string t]] w fun e w'=>e=.returned (.bool (za4 d xs t))/\Below w.heap.size w w':=by
 cases d with
 | true =>
  by_cases h:t.size=0
  ·rw [zdl xs t h];have he:=zc7 h;have HV:=hide hv;have C:=hide (fun W h=>zf4 v xs W h);obtain ⟨a,c,rfl,-⟩:=hv;obtain ⟨R,hR⟩:∃ R,za1 xs=R:=⟨_,rfl⟩
   rw [hR] at C ⊢;clear hR h;go_enter Tryz.func124,Tryz.ntmps124
   go_wp2_with (go_at_call 152;refine (C.out _ (HV.out.alloc _)).mono ?_;rintro e w1 ⟨rfl,hb1⟩)
   go_ret;exact ⟨rfl,((Below.refl _ w).alloc nR _).trans (hb1.mono (by simp))⟩
  ·rw [zeo xs t h];have he:=zbf (s:=t) (by omega);obtain ⟨a,c,rfl,-⟩:=hv;go_enter Tryz.func124,Tryz.ntmps124
   go_wp2;go_ret;exact ⟨rfl,by go_grown⟩
 | false =>
  rw [zep];obtain ⟨a,c,rfl,-⟩:=hv;generalize xs.length=n at *;by_cases h:n=0
  ·subst h;go_enter Tryz.func124,Tryz.ntmps124
   go_wp2;go_ret;exact ⟨zac (by simp;omega),by go_grown⟩
  ·have h1:((n:Int) == 0)=false:=by simp;omega
   go_enter Tryz.func124,Tryz.ntmps124
   go_wp2;go_ret;exact ⟨zac (by simp [h]),by go_grown⟩
theorem ziu (d:Bool)(v:Value)(t:ByteArray)(xs:List Sl)(w:World)(hv:RSl w v xs)(h:d=false\/xs.length≠4\/t.size≠0) :
  Calls Tryz.prog 77 #[.agg #[.bool d,v,.string t]] w fun e w'=>e=.returned (.bool (za4 d xs t))/\Below w.heap.size w w':=by
 cases d with
 | false =>
  rw [zep];obtain ⟨a,c,rfl,-⟩:=hv;generalize xs.length=n at *;by_cases h:n=0
  ·subst h;go_enter Tryz.func77,Tryz.ntmps77
   go_wp2;go_ret;exact ⟨zac (by simp;omega),by go_grown⟩
  ·have h1:((n:Int) == 0)=false:=by simp;omega
   go_enter Tryz.func77,Tryz.ntmps77
   go_wp2;go_ret;exact ⟨zac (by simp),by go_grown⟩
 | true =>
  have e1:za4 true xs t=false:=by
   by_cases h2:t.size=0
   ·rw [zdl xs t h2];exact zku (by simpa [h2] using h)
   ·exact zeo xs t h2
  rw [e1];obtain ⟨a,c,rfl,-⟩:=hv;generalize xs.length=n at *;by_cases h4:n=4
  ·subst h4;have he:=zbf (s:=t) (by rcases h with h | h | h;cases h;exact absurd rfl h;omega);go_enter Tryz.func77,Tryz.ntmps77
   go_wp2;go_ret;exact ⟨rfl,by go_grown⟩
  ·have h1:((n:Int) != 4)=true:=by simp;omega
   go_enter Tryz.func77,Tryz.ntmps77
   go_wp2;go_ret;exact ⟨rfl,by go_grown⟩
theorem zj3 (v:Value)(t0:ByteArray)(xs:List Sl)(w:World)(hv:RSl w v xs)(hl:xs.length=4)(ht0:t0.size=0)(hbig:∀ (j:Nat) (h:j < xs.length),xs[j].1.size<=1048576) :
  Calls Tryz.prog 77 #[.agg #[.bool true,v,.string t0]] w fun e w'=>e=.returned (.bool (za1 xs))/\Below w.heap.size w w':=by
 have HV:=hide hv;have HG:=hide hbig;obtain ⟨a,c,rfl,hcap,hc⟩:=hv;have HC:=hide hc;have HL:=hide hl;clear hc hbig;have HR:=hide (zkt hl);obtain ⟨R,hR⟩:∃ R,za1 xs=R:=⟨_,rfl⟩
 rw [hR] at HR ⊢;rw [hl] at HV hcap ⊢;have he0:=zc7 ht0;clear hR hl ht0;go_enter Tryz.func77,Tryz.ntmps77
 go_wp2;go_loopw [3,4,5] (fun i _ _ wr=>∃ j:Nat,j<=4/\i=.int .i64 j/\Hid (R=okF (xs.take j) (xs.drop j))/\Below w.heap.size w wr/\AtC wr w.heap.size 74 #[.bool true,.slice a 4 c,.string t0]) (fun i _ _ _=>4 - (intOf i).toNat)
 case atStart=>exact ⟨0,Nat.zero_le _,rfl,HR,(Below.refl _ w).alloc nR _,AtC.new w 74 _⟩
 case round =>
  obtain ⟨j,hj,rfl,HP,hb,hat⟩:=hrel;obtain ⟨b0,b1,b2,hbl⟩:=hat.three;by_cases hlt:j < 4
  ·have hlx:j < xs.length:=by rw [HL.out];exact hlt
   obtain ⟨g,off,rfl,hg,k1,k2⟩:=HC.out j hlx;have q1:=(hb.cell (p:=⟨g,off+j * 2,none⟩) hg).trans k1;have q2:=(hb.cell (p:=⟨g,off+j * 2+1,none⟩) hg).trans k2;have hsz:=hb.size;have j0:(0:Int)<=(j:Int):=by omega
   have j1:(j:Int) < 4:=by omega
   have C1:=hide (fun W=>zip xs[j].1 W (HG.out j hlx));have HBAD:=hide (ok_bad hlx HP.out);have HTW:=hide (zkv hlx HP.out);have HNX:=hide (zm5 hlx HP.out);obtain ⟨t,ht⟩:∃ t,xs[j].1=t:=⟨_,rfl⟩
   obtain ⟨z,hz⟩:∃ z,xs[j].2=z:=⟨_,rfl⟩
   have e1:xs[j]=(t,z):=by rw [← ht,← hz]
   rw [e1] at HBAD HNX HTW;rw [ht] at q1 C1;rw [hz] at q2;have HAT:=hide hat;have HB:=hide hb;clear k1 k2 ht hz e1 hb HP hlx hat;by_cases hA:t.size=0/\z=0
   ·obtain ⟨hA,rfl⟩:=hA;have he:=zc7 hA;have HQ:=hide (HNX.out (zdk (.inl ⟨hA,rfl⟩)).symm (by rw [zcy _ hA];decide));clear hA;go_wp2;go_roundw
    case rel=>exact ⟨j+1,by omega,by go_num,HQ,HB.out.alloc hsz _,HAT.out.alloc _⟩
    case measure=>simp [intOf];omega
   ·have HA:=hide hA;obtain ⟨n,hn⟩:∃ n,zbe t=n:=⟨_,rfl⟩
    rw [hn] at C1;have HN:=hide hn;have HE:Hid (∀ (P:Prop) [Decidable P],True):=fun _=>trivial;have hAN:=HAT.out.alloc (.cells #[.string t,.int .i64 z] 100);have hBW:=HB.out.alloc hsz (.cells #[.string t,.int .i64 z] 100);have hSW:=AtC.new wr 100 #[.string t,.int .i64 z];have HAN:=hide hAN;have HBW:=hide hBW;have HSW:=hide hSW;clear hn hAN hBW hSW HE;by_cases hG:n=true/\1<=z/\z<=8
    ·obtain ⟨rfl,z1,z8⟩:=hG;have hs1:1<=t.size:=(zb6 HN.out).1;have he:=zbf (s:=t) (by omega);have zz:(z == 0)=false:=by simp;omega
     have hin:inB z 1 8=true:=by simp [inB,z1,z8]
     have HSO:=hide (zdk (t:=t) (z:=z) (.inr ⟨HN.out,z1,z8⟩)).symm;have HNX2:=hide (HNX.out HSO.out);have HPS:=hide (zcz (xs.take j) (name:=t) (by omega));obtain ⟨r2,hr2⟩:∃ r,zcv (xs.take j) t=r:=⟨_,rfl⟩
     simp only [hr2] at HNX2 HTW HPS;clear hr2 hA HNX HBAD;go_wp2_with (first | (go_at_call 120;refine (C1.out _).mono ?_;rintro e w1 ⟨rfl,B1⟩;obtain ⟨s0,s1,sl⟩:=(HSW.out.over B1).two;obtain ⟨d0,d1,d2,dl⟩:=(HAN.out.over B1).three) | (go_at_call 80;refine (zam _ _ _ _).mono ?_;rintro e w1 ⟨rfl,rfl⟩))
     have hB1:Below w.heap.size w w1:=HBW.out.trans (B1.mono (by simp;omega));have HB1:=hide hB1;have hA1:=HAN.out.over B1;have HA1:=hide hA1;clear hB1 hA1 B1 b0 b1 b2;go_loopw [5] (fun i wz=>∃ k:Nat,k<=j/\i=.int .i64 k/\Hid (r2=plF t k ((xs.take j).drop k))/\∃ q,wz=w1.drewN q) (fun i _=>j - (intOf i).toNat)
     case atStart=>exact ⟨0,Nat.zero_le _,rfl,HPS,0,rfl⟩
     case round =>
      obtain ⟨k,hk,rfl,HK,q,rfl⟩:=hrel;by_cases hkj:k < j
      ·have hkx:k < xs.length:=by rw [HL.out];omega
       obtain ⟨g',off',e',hg',m1,m2⟩:=HC.out k hkx;simp only [Option.some.injEq,Addr.mk.injEq] at e';obtain ⟨rfl,rfl,-⟩:=e';have n1:=(HB1.out.cell (p:=⟨g,off+k * 2,none⟩) hg).trans m1;have hjx:j < xs.length:=by rw [HL.out];exact hlt
       have HIT:=hide (pl_hit' hkj hjx HK.out);have NXT:=hide (pl_next' hkj hjx HK.out);obtain ⟨t2,ht2⟩:∃ t,xs[k].1=t:=⟨_,rfl⟩
       rw [ht2] at n1 HIT NXT;clear m1 m2 ht2 hjx hkx q1 q2;have k0:(0:Int)<=(k:Int):=by omega
       have k1:(k:Int) < 4:=by omega
       by_cases hq:t2=t
       ·have c1:=zca hq;have HQ:=hide (HTW.out (by have:=HIT.out hq;omega));clear hq;go_wp2;go_quiet (fail)
        go_wp2;go_ret;exact ⟨zac HQ.out.symm,below_drewN (below_drewN HB1.out _) _⟩
       ·have c1:=zay hq;have HQ:=hide (NXT.out hq);clear hq;go_wp2;go_quiet (fail)
        go_wp2;go_roundw
        case rel=>exact ⟨k+1,by omega,by go_num,HQ,_,rfl⟩
        case measure=>simp [intOf];omega
      ·have HQ:=hide (HNX2.out (by have:=pl_end' (by omega) HK.out;omega));clear q1 q2;go_wp2;go_roundw
       case rel=>exact ⟨j+1,by omega,by go_num,HQ,below_drewN HB1.out _,HA1.out⟩
       case measure=>simp [intOf];omega
    ·have HQ:=hide (HBAD.out (zen (t:=t) (z:=z) (by rintro (h | h);exact HA.out h;exact hG ⟨by rw [← HN.out];exact h.1,h.2⟩)).symm);have hE:(t.size=0/\(z == 0)=false)\/0 < t.size:=by
      by_cases h:t.size=0
      ·left;exact ⟨h,by simp;intro hz;exact HA.out ⟨h,hz⟩⟩
      ·right;omega
     have hin:n=true->inB z 1 8=false:=fun h=>by simp [inB];intro h1;have:=hG;simp [h] at this;omega
     have HI:=hide hin;have HEE:=hide hE;clear hin hE hA hG HBAD HNX HTW
     cases n with
     | false =>
      rcases HEE.out with ⟨h0,hz⟩ | h0
      ·have he:=zc7 h0;clear h0;go_wp2_with (first | (go_at_call 120;refine (C1.out _).mono ?_;rintro e w1 ⟨rfl,B1⟩))
       go_ret;exact ⟨zac HQ.out.symm,HBW.out.trans (B1.mono (by simp;omega))⟩
      ·have he:=zbf h0;clear h0;go_wp2_with (first | (go_at_call 120;refine (C1.out _).mono ?_;rintro e w1 ⟨rfl,B1⟩))
       go_ret;exact ⟨zac HQ.out.symm,HBW.out.trans (B1.mono (by simp;omega))⟩
     | true =>
      have hin:=HI.out rfl;have hs1:1<=t.size:=(zb6 HN.out).1;have he:=zbf (s:=t) (by omega);go_wp2_with (first | (go_at_call 120;refine (C1.out _).mono ?_;rintro e w1 ⟨rfl,B1⟩;obtain ⟨s0,s1,sl⟩:=(HSW.out.over B1).two) | (go_at_call 80;refine (zam _ _ _ _).mono ?_;rintro e w1 ⟨rfl,rfl⟩))
      go_ret;exact ⟨zac HQ.out.symm,HBW.out.trans (B1.mono (by simp;omega))⟩
  ·have HH:=hide (ok_end (by rw [HL.out];omega) HP.out);have HB:=hide hb;clear hb hat;go_wp2;go_ret;exact ⟨zac HH.out.symm,HB.out⟩
theorem zfi (d:Bool)(v:Value)(t:ByteArray)(xs:List Sl)(w:World)(hv:RSl w v xs)(hbig:∀ (j:Nat) (h:j < xs.length),xs[j].1.size<=1048576) :
  Calls Tryz.prog 77 #[.agg #[.bool d,v,.string t]] w fun e w'=>e=.returned (.bool (za4 d xs t))/\Below w.heap.size w w':=by
 by_cases h:d=false\/xs.length≠4\/t.size≠0
 ·exact ziu d v t xs w hv h
 ·simp only [not_or,Bool.not_eq_false,Decidable.not_not,ne_eq] at h;obtain ⟨rfl,h4,h0⟩:=h;rw [zdl xs t h0];exact zj3 v t xs w hv h4 h0 hbig
namespace Kit
theorem zkw {α:Type}{f:α->Bool}{l:List α}{j:Nat}(h:j < l.length)(hf:f l[j]=false):l.all f=false:=by
 rw [List.all_eq_false];exact ⟨l[j],List.getElem_mem h,by simp [hf]⟩
theorem zg4 {α:Type}{f:α->Bool}{l:List α}(h:∀ (j:Nat) (h:j < l.length),f l[j]=true):l.all f=true:=by
 rw [List.all_eq_true];intro x hx;obtain ⟨j,hj,rfl⟩:=List.getElem_of_mem hx;exact h j hj
end Kit
def inoOk (x:Ino):Bool:=okL x.1 x.2.1 x.2.2
def zdp (l:List Ino):Bool:=l.all inoOk
def blkOk (b:Blk):Bool:=za4 b.1 b.2.1 b.2.2
def zdq (l:List Blk):Bool:=l.all blkOk
def zag (xs ys:List Bool) (is:List Ino) (bs:List Blk):Bool:=okB xs.length ys.length && (zdp is && decide (is.length=8)) && (zdq bs && decide (bs.length=16))
theorem zg5 (v:Value)(l:List Ino)(w:World)(hv:R3 KI w v l)(hl:l.length<=1048576) :
  Calls Tryz.prog 91 #[v] w fun e w'=>e=.returned (.bool (zdp l && decide (l.length=8)))/\Below w.heap.size w w':=by
 obtain ⟨a1,c1,rfl,-,hv'⟩:=hv.ino;have HA:=hide hv';clear hv hv';go_enter Tryz.func91,Tryz.ntmps91
 go_wp2;go_loopw [7] (fun i wr=>∃ j:Nat,j<=l.length/\i=.int .i64 j/\Hid (∀ (k:Nat) (h:k < l.length),k < j->inoOk l[k]=true)/\Below w.heap.size w wr) (fun i _=>l.length - (intOf i).toNat)
 case atStart=>exact ⟨0,Nat.zero_le _,rfl,fun _ _ h=>absurd h (Nat.not_lt_zero _),Below.refl _ _⟩
 case round =>
  obtain ⟨j,hj,rfl,HS,hb⟩:=hrel;by_cases hlt:j < l.length
  ·obtain ⟨g1,o1,p1,rfl,hg1,m1,m2,m3,hr1⟩:=HA.out j hlt;have q1:=(hb.cell (p:=⟨g1,o1+j * 3,none⟩) hg1).trans m1;have q2:=(hb.cell (p:=⟨g1,o1+j * 3+1,none⟩) hg1).trans m2;have q3:=(hb.cell (p:=⟨g1,o1+j * 3+2,none⟩) hg1).trans m3;obtain ⟨x,hx⟩:∃ x,l[j]=x:=⟨_,rfl⟩
   obtain ⟨y,s,z⟩:=x;rw [hx] at q1 q2 hr1;obtain ⟨pa,pc,rfl⟩:=hr1.form;simp only at q1 q2 q3 hr1;have HR:Hid (∀ w',Below w.heap.size w w'->RInts w' (.slice pa z.length pc) z):=fun w' hb=>hr1.below hb nR;have j0:(0:Int)<=(j:Int):=by omega
   have j1:(j:Int) < (l.length:Int):=by omega
   have hsz:=hb.size;have HBB:=hide hb;have HX:=hide hx;clear hb m1 m2 m3 hr1 hx
   cases hq:inoOk (y,s,z) with
   | true =>
    have HQ:=hide hq;have hq2:okL y s z=true:=hq;have HQ2:=hide hq2;clear hq hq2;go_wp2_with (go_at_call 123;refine (zfe _ _ z _ _ (HR.out _ (HBB.out.alloc hsz _))).mono ?_;rw [HQ2.out];rintro e w1 ⟨rfl,B1⟩;have HB1:=hide ((HBB.out.alloc hsz _).trans (B1.mono (by simp;omega)));clear B1)
    go_roundw
    case rel =>
     refine ⟨j+1,by omega,by go_num,fun k hk hkj=>?_,HB1.out⟩;by_cases hkk:k=j
     ·subst hkk;rw [HX.out];exact HQ.out
     ·exact HS.out k hk (by omega)
    case measure=>simp [intOf];omega
   | false =>
    have hno:zdp l=false:=zkw hlt (by rw [HX.out];exact hq);have HNO:=hide hno;have hq2:okL y s z=false:=hq;have HQ2:=hide hq2;clear hq hq2 hno;go_wp2_with (go_at_call 123;refine (zfe _ _ z _ _ (HR.out _ (HBB.out.alloc hsz _))).mono ?_;rw [HQ2.out];rintro e w1 ⟨rfl,B1⟩;have HB1:=hide ((HBB.out.alloc hsz _).trans (B1.mono (by simp;omega)));clear B1)
    go_ret;exact ⟨zac (by rw [HNO.out];rfl),HB1.out⟩
  ·have hyes:zdp l=true:=zg4 fun k hk=>HS.out k hk (by omega);have HY:=hide hyes;have HBB:=hide hb;clear hb hyes;go_wp2;go_ret;exact ⟨zac (by rw [HY.out,Bool.true_and,Bool.eq_iff_iff];simp;omega),HBB.out⟩
theorem zg6 (v:Value)(l:List Blk)(w:World)(hv:R3 KB w v l)(hl:l.length<=1048576) :
  Calls Tryz.prog 92 #[v] w fun e w'=>e=.returned (.bool (zdq l && decide (l.length=16)))/\Below w.heap.size w w':=by
 obtain ⟨a1,c1,rfl,-,hv'⟩:=hv.blk;have HA:=hide hv';clear hv hv';go_enter Tryz.func92,Tryz.ntmps92
 go_wp2;go_loopw [7] (fun i wr=>∃ j:Nat,j<=l.length/\i=.int .i64 j/\Hid (∀ (k:Nat) (h:k < l.length),k < j->blkOk l[k]=true)/\Below w.heap.size w wr) (fun i _=>l.length - (intOf i).toNat)
 case atStart=>exact ⟨0,Nat.zero_le _,rfl,fun _ _ h=>absurd h (Nat.not_lt_zero _),Below.refl _ _⟩
 case round =>
  obtain ⟨j,hj,rfl,HS,hb⟩:=hrel;by_cases hlt:j < l.length
  ·obtain ⟨g1,o1,p1,rfl,hg1,m1,m2,m3,hr1⟩:=HA.out j hlt;have q1:=(hb.cell (p:=⟨g1,o1+j * 3,none⟩) hg1).trans m1;have q2:=(hb.cell (p:=⟨g1,o1+j * 3+1,none⟩) hg1).trans m2;have q3:=(hb.cell (p:=⟨g1,o1+j * 3+2,none⟩) hg1).trans m3;obtain ⟨x,hx⟩:∃ x,l[j]=x:=⟨_,rfl⟩
   obtain ⟨y,s,z⟩:=x;rw [hx] at q1 q3 hr1;obtain ⟨pa,pc,rfl⟩:=hr1.form;simp only at q1 q2 q3 hr1;have HR:Hid (∀ w',Below w.heap.size w w'->RSl w' (.slice pa s.length pc) s):=fun w' hb=>hr1.below hb nR;have j0:(0:Int)<=(j:Int):=by omega
   have j1:(j:Int) < (l.length:Int):=by omega
   have hsz:=hb.size;have HBB:=hide hb;have HX:=hide hx;clear hb m1 m2 m3 hr1 hx
   cases hq:blkOk (y,s,z) with
   | true =>
    have HQ:=hide hq;have hq2:za4 y s z=true:=hq;have HQ2:=hide hq2;clear hq hq2;go_wp2_with (go_at_call 124;refine (zfh _ _ _ s _ (HR.out _ (HBB.out.alloc hsz _))).mono ?_;rw [HQ2.out];rintro e w1 ⟨rfl,B1⟩;have HB1:=hide ((HBB.out.alloc hsz _).trans (B1.mono (by simp;omega)));clear B1)
    go_roundw
    case rel =>
     refine ⟨j+1,by omega,by go_num,fun k hk hkj=>?_,HB1.out⟩;by_cases hkk:k=j
     ·subst hkk;rw [HX.out];exact HQ.out
     ·exact HS.out k hk (by omega)
    case measure=>simp [intOf];omega
   | false =>
    have hno:zdq l=false:=zkw hlt (by rw [HX.out];exact hq);have HNO:=hide hno;have hq2:za4 y s z=false:=hq;have HQ2:=hide hq2;clear hq hq2 hno;go_wp2_with (go_at_call 124;refine (zfh _ _ _ s _ (HR.out _ (HBB.out.alloc hsz _))).mono ?_;rw [HQ2.out];rintro e w1 ⟨rfl,B1⟩;have HB1:=hide ((HBB.out.alloc hsz _).trans (B1.mono (by simp;omega)));clear B1)
    go_ret;exact ⟨zac (by rw [HNO.out];rfl),HB1.out⟩
  ·have hyes:zdq l=true:=zg4 fun k hk=>HS.out k hk (by omega);have HY:=hide hyes;have HBB:=hide hb;clear hb hyes;go_wp2;go_ret;exact ⟨zac (by rw [HY.out,Bool.true_and,Bool.eq_iff_iff];simp;omega),HBB.out⟩
def zab (is:List Ino) (i:Int):Int:=if inB i 1 is.length=true then (is.getD (i - 1).toNat (0,0,[])).1 else 0
def zak (is:List Ino) (i:Int):List Int:=if inB i 1 is.length=true then (is.getD (i - 1).toNat (0,0,[])).2.2 else []
def nmdS (ss:List Sl):List Sl:=ss.filter fun s=>decide (¬ s.1=⟨#[]⟩)
def nmd (b:Blk):List Sl:=if b.1=true then nmdS b.2.1 else []
def nmdP (bs:List Blk) (ps:List Int):List Sl:=ps.flatMap fun p=>nmd (blkAt bs p)
def named (is:List Ino) (bs:List Blk) (i:Int):List Sl:=if zab is i=2 then nmdP bs (zak is i) else []
def findI:List Sl->ByteArray->Int
 | [],_=>0
 | s :: r,nm=>if s.1=nm then s.2 else findI r nm
theorem zc0 {a b:List Sl}{nm:ByteArray}(h:∀ s∈a,¬ s.1=nm):findI (a ++ b) nm=findI b nm:=by
 induction a with
 | nil=>rfl
 | cons s r ih =>
  rw [List.cons_append,findI,if_neg (h s (by simp))];exact ih fun x hx=>h x (by simp [hx])
theorem zlv {a:List Sl}{nm:ByteArray}(h:∀ s∈a,¬ s.1=nm):findI a nm=0:=by
 have:=zc0 (b:=[]) h;rw [List.append_nil] at this;rw [this];rfl
theorem zm7 {nm:ByteArray}(h:nm.size≠0):¬ nm=⟨#[]⟩:=fun e=>h (by rw [e];rfl)
theorem ne_size {nm:ByteArray}(h:¬ nm=⟨#[]⟩):nm.size≠0:=fun e=>h (by
 obtain ⟨⟨l⟩⟩:=nm;have:l=[]:=List.length_eq_zero_iff.1 e;subst this;rfl)
theorem zj4 {ss c:List Sl}{nm:ByteArray}{j:Nat}(hj:j < ss.length)(h:ss[j].1=nm)(hn:nm.size≠0)(hf:∀ (i:Nat) (hi:i < j),¬ (ss[i]'(Nat.lt_trans hi hj)).1=nm):findI (nmdS ss ++ c) nm=ss[j].2:=by
 induction ss generalizing j with
 | nil=>simp at hj
 | cons s r ih =>
  cases j with
  | zero =>
   have h':s.1=nm:=h;have:nmdS (s :: r)=s :: nmdS r:=by simp [nmdS,h',zm7 hn]
   rw [this,List.cons_append,findI,if_pos h'];rfl
  | succ j =>
   have h0:¬ s.1=nm:=hf 0 (Nat.succ_pos _);have hi:=ih (j:=j) (by simpa using hj) h (fun i hi=>hf (i+1) (Nat.succ_lt_succ hi));by_cases e:s.1=⟨#[]⟩
   ·have:nmdS (s :: r)=nmdS r:=by simp [nmdS,e]
    rw [this];exact hi
   ·have:nmdS (s :: r)=s :: nmdS r:=by simp [nmdS,e]
    rw [this,List.cons_append,findI,if_neg h0];exact hi
theorem zg7 {ss:List Sl}{s:Sl}(h:s∈nmdS ss):s∈ss/\¬ s.1=⟨#[]⟩:=by
 have:=List.mem_filter.1 h;exact ⟨this.1,by simpa using this.2⟩
theorem zm8 {ss:List Sl}{nm:ByteArray}(h:∀ (i:Nat) (hi:i < ss.length),¬ ss[i].1=nm):∀ s∈nmdS ss,¬ s.1=nm:=fun s hs=>by
 obtain ⟨i,hi,rfl⟩:=List.getElem_of_mem (zg7 hs).1;exact h i hi
theorem zfj {bs:List Blk}{ps:List Int}{q:Nat}(h:q < ps.length):nmdP bs (ps.take (q+1))=nmdP bs (ps.take q) ++ nmd (blkAt bs ps[q]):=by
 rw [List.take_succ_eq_append_getElem h];unfold nmdP;rw [List.flatMap_append,List.flatMap_cons,List.flatMap_nil,List.append_nil]
theorem zlw {bs:List Blk}{ps:List Int}{q:Nat}(h:q < ps.length):nmdP bs ps=nmdP bs (ps.take q) ++ (nmd (blkAt bs ps[q]) ++ nmdP bs (ps.drop (q+1))):=by
 have e:ps=ps.take q ++ ps[q] :: ps.drop (q+1):=by
  rw [← List.drop_eq_getElem_cons h,List.take_append_drop]
 have:nmdP bs (ps.take q ++ ps[q] :: ps.drop (q+1))=nmdP bs (ps.take q) ++ (nmd (blkAt bs ps[q]) ++ nmdP bs (ps.drop (q+1))):=by
  unfold nmdP;rw [List.flatMap_append,List.flatMap_cons]
 rw [← e] at this;exact this
theorem zfk {ss:List Sl}{t:Nat}(h:t < ss.length):nmdS (ss.take (t+1))=nmdS (ss.take t) ++ (if ss[t].1=⟨#[]⟩ then [] else [ss[t]]):=by
 rw [List.take_succ_eq_append_getElem h];unfold nmdS;rw [List.filter_append];by_cases e:ss[t].1=⟨#[]⟩
 ·rw [if_pos e,List.filter_cons_of_neg (by simp [e]),List.filter_nil]
 ·rw [if_neg e,List.filter_cons_of_pos (by simp [e]),List.filter_nil]
theorem zai {is:List Ino}{j:Nat}(h:j < is.length):zab is ((j:Int)+1)=is[j].1/\zak is ((j:Int)+1)=is[j].2.2:=by
 have hb:inB ((j:Int)+1) 1 is.length=true:=by simp [inB];omega
 unfold zab zak;rw [if_pos hb,if_pos hb,show ((j:Int)+1 - 1).toNat=j by omega];simp [h]
theorem zaz {is:List Ino}{i:Int}(h:inB i 1 is.length=false):zab is i=0:=by unfold zab;rw [h];rfl
theorem zg8 {bs:List Blk}{x:Int}(h:inB x 1 bs.length=false):blkAt bs x=(false,[],⟨#[]⟩):=by unfold blkAt;rw [h];rfl
namespace Kit
def subs:List Nat->List (List Nat)
 | []=>[[]]
 | x :: r=>subs r ++ (subs r).map fun t=>x :: t
theorem zfl (p:Nat->Bool)(js:List Nat):js.filter p∈subs js:=by
 induction js with
 | nil=>simp [subs]
 | cons x r ih =>
  rw [subs,List.mem_append];by_cases h:p x=true
  ·rw [List.filter_cons_of_pos h];exact .inr (List.mem_map.2 ⟨_,ih,rfl⟩)
  ·rw [List.filter_cons_of_neg h];exact .inl ih
def mask (n:Nat) (s:List Nat):Array Bool:=((List.range n).map fun i=>s.contains i).toArray
theorem ze0 (n:Nat)(s:List Nat)(j:Nat):(mask n s).setIfInBounds j true=mask n (j :: s):=by
 apply Array.ext
 ·simp [mask]
 ·intro i h1 h2;simp only [mask,Array.size_setIfInBounds,List.size_toArray,List.length_map,List.length_range] at h1;rw [Array.getElem_setIfInBounds (by simpa [mask] using h1)];simp only [mask,List.getElem_toArray,List.getElem_map,List.getElem_range,List.contains_cons];by_cases e:j=i
  ·simp [e]
  ·have e':(i == j)=false:=by simp;omega
   simp [e,e']
theorem zb1 (n:Nat)(s s':List Nat)(h:∀ i,i∈s↔i∈s'):mask n s=mask n s':=by
 have e:(fun i=>s.contains i)=fun i=>s'.contains i:=by
  funext i
  have:=h i;by_cases hi:i∈s
  ·simp [hi,this.1 hi]
  ·have:¬ i∈s':=fun q=>hi (this.2 q);simp [hi,this]
 rw [mask,mask,e]
theorem zkx (n:Nat):mask n []=Array.replicate n false:=by
 apply Array.ext
 ·simp [mask]
 ·intro i h1 h2;simp [mask]
def upd {α:Type} (x:Nat->α) (j:Nat) (v:α):Nat->α:=fun i=>if i=j then v else x i
theorem zbi {α:Type}(x:Nat->α)(j:Nat)(v:α):upd x j v j=v:=if_pos rfl
theorem za8 {α:Type}(x:Nat->α)(j i:Nat)(v:α)(h:i≠j):upd x j v i=x i:=if_neg h
structure PI (W0:World) (s:List Nat) (Post:Nat->Nat->Nat->World->Value->Prop) (x:Nat->Value) (iv:Nat->Nat×Nat) (w:World):Prop where
 bel:Below W0.heap.size W0 w
 post:∀ i∈s,Post i (iv i).1 (iv i).2 w (x i)
 lo:∀ i∈s,W0.heap.size<=(iv i).1/\(iv i).1<=(iv i).2/\(iv i).2<=w.heap.size
 apart:∀ i∈s,∀ j∈s,i≠j->(iv i).2<=(iv j).1\/(iv j).2<=(iv i).1
theorem PI.add {W0:World}{s:List Nat}{Post:Nat->Nat->Nat->World->Value->Prop}{x:Nat->Value}{iv:Nat->Nat×Nat}{w w':World}{j:Nat}{v:Value}(h:PI W0 s Post x iv w)
  (stable:∀ i lo hi w w' v,Post i lo hi w v->Below w.heap.size w w'->Post i lo hi w' v) (hj:¬ j∈s) (hb:Below w.heap.size w w') (hp:Post j w.heap.size w'.heap.size w' v) :
  PI W0 (j :: s) Post (upd x j v) (upd iv j (w.heap.size,w'.heap.size)) w':=by
 have hs:=h.bel.size;have hs2:=hb.size;have ne:∀ i∈s,i≠j:=fun i hi e=>hj (e ▸ hi);refine ⟨h.bel.trans (hb.mono hs),fun i hi=>?_,fun i hi=>?_,fun i hi k hk hne=>?_⟩
 ·rcases List.mem_cons.1 hi with rfl | hi
  ·rw [zbi,zbi];exact hp
  ·rw [za8 _ _ _ _ (ne i hi),za8 _ _ _ _ (ne i hi)];exact stable _ _ _ _ _ _ (h.post i hi) hb
 ·rcases List.mem_cons.1 hi with rfl | hi
  ·rw [zbi];exact ⟨hs,hs2,Nat.le_refl _⟩
  ·rw [za8 _ _ _ _ (ne i hi)];have:=h.lo i hi;omega
 ·rcases List.mem_cons.1 hi with ei | hi2
  ·rcases List.mem_cons.1 hk with ek | hk2
   ·exact absurd (ei.trans ek.symm) hne
   ·rw [ei,zbi,za8 _ _ _ _ (ne k hk2)];exact .inr (h.lo k hk2).2.2
  ·rcases List.mem_cons.1 hk with ek | hk2
   ·rw [ek,zbi,za8 _ _ _ _ (ne i hi2)];exact .inl (h.lo i hi2).2.2
   ·replace hi:=hi2
    replace hk:=hk2
    rw [za8 _ _ _ _ (ne i hi),za8 _ _ _ _ (ne k hk)];exact h.apart i hi k hk hne
theorem PI.of_mem {W0:World}{s s':List Nat}{Post:Nat->Nat->Nat->World->Value->Prop}{x:Nat->Value}{iv:Nat->Nat×Nat}{w:World}(h:PI W0 s Post x iv w)(hs:∀ i∈s',i∈s):PI W0 s' Post x iv w :=
 ⟨h.bel,fun i hi=>h.post i (hs i hi),fun i hi=>h.lo i (hs i hi),fun i hi j hj=>h.apart i (hs i hi) j (hs j hj)⟩
def zec (md:Region.Mode) (ops:Array Oper) (t:List Nat):Bool:=t.all fun i=>match ops[i]? with | some o=>o.after.all fun e=>!Region.binds md e || t.contains e.on | none=>true
def zc8 (md:Region.Mode) (ops:Array Oper) (js:List Nat):Bool :=
 (subs js).all fun t=>t == js || !zec md ops t || (!(Region.ready md ops (mask ops.size t)).isEmpty && (Region.ready md ops (mask ops.size t)).all fun i=>js.contains i && !t.contains i)
def zc1 (md:Region.Mode) (ops:Array Oper):List Nat->List Nat->Bool
 | s,[]=>(Region.ready md ops (mask ops.size s)).isEmpty
 | s,i :: r=>(Region.ready md ops (mask ops.size s) == [i]) && (ops[i]?).isSome && zc1 md ops (i :: s) r
section
variable {P : Program} {ops : Array Oper} {Q : Exit -> Act -> World -> Prop} {md : Region.Mode}
theorem zc9:∀ (line s:List Nat) (fuel:Nat) (a:Act) (w:World),zc1 md ops s line=true->line.length<=fuel->wpList P ops Q (line.filterMap fun i=>ops[i]?) a w->wpAny P md ops Q fuel (mask ops.size s) a w
 | [],s,fuel,a,w,h,_,hw=>wpAny_done (by simpa [zc1] using h) (by simpa [wpList] using hw) fuel
 | i :: r,s,0,a,w,_,hl,_=>by simp at hl
 | i :: r,s,fuel+1,a,w,h,hl,hw=>by
  simp only [zc1,Bool.and_eq_true,beq_iff_eq] at h;obtain ⟨⟨h1,h2⟩,h3⟩:=h;obtain ⟨o,ho⟩:=Option.isSome_iff_exists.1 h2;have ih:=fun a w hw=>zc9 r (i :: s) fuel a w h3 (by simpa using hl) hw;refine wpAny_all h1 (by simp) fun j hj=>?_;obtain rfl:j=i:=by simpa using hj
  rw [ze0];have hw':wpList P ops Q (o :: r.filterMap fun i=>ops[i]?) a w:=by simpa [ho] using hw
  refine wpOp_mono (fun a w=>ih a w) ?_;unfold wpOp;rw [ho];exact hw'
theorem zdr {n:Nat}{s:List Nat}{j:Nat}(h:j∈Region.ready md ops (mask n s)){o:Oper}(ho:ops[j]?=some o){k:Nat}(he:∃ e∈o.after,e.on=k/\Region.binds md e=true):k∈s:=by
 obtain ⟨-,o',ho',hall⟩:=mem_ready.1 h;rw [ho] at ho'
 cases ho'
 obtain ⟨e,he1,rfl,he2⟩:=he;have:=hall e he1 he2;rw [mask] at this;by_cases hn:e.on < n
 ·simpa [Array.getD,hn] using this
 ·simp [Array.getD,hn] at this
theorem ziv (js:List Nat)(fuel:Nat)(act:(Nat->Value)->Act)(W0:World)(Post:Nat->Nat->Nat->World->Value->Prop)(Inv:List Nat->(Nat->Value)->World->Prop)
  (stable:∀ i lo hi w w' v,Post i lo hi w v->Below w.heap.size w w'->Post i lo hi w' v) (ok:zc8 md ops js=true)
  (prod:∀ j∈js,∀ s x iv W,j∈Region.ready md ops (mask ops.size s)->¬ j∈s->PI W0 s Post x iv W->Inv s x W->∀ K:Act->World->Prop,(∀ v W',Below W.heap.size W W'->Post j W.heap.size W'.heap.size W' v->Inv (j :: s) (upd x j v) W'->K (act (upd x j v)) W')->wpOp P ops Q j K (act x) W)
  (rest:∀ s x iv W f,fuel<=f->(∀ i∈js,i∈s)->PI W0 js Post x iv W->Inv s x W->wpAny P md ops Q f (mask ops.size js) (act x) W) :
  ∀ (m f:Nat) (s:List Nat) (x:Nat->Value) (iv:Nat->Nat×Nat) (W:World),(js.filter fun i=>!s.contains i).length<=m->fuel<=f->(∀ i∈s,i∈js)->(∀ i∈s,∀ o,ops[i]?=some o->∀ e∈o.after,Region.binds md e=true->e.on∈s)->PI W0 s Post x iv W->Inv s x W->wpAny P md ops Q (f+m) (mask ops.size s) (act x) W:=by
 intro m
 induction m with
 | zero =>
  intro f s x iv W hc hf hs hcl hp hv;have hall:∀ i∈js,i∈s:=fun i hi=>by
   by_cases h:i∈s
   ·exact h
   ·have:i∈js.filter fun i=>!s.contains i:=List.mem_filter.2 ⟨hi,by simpa using h⟩;rw [List.eq_nil_of_length_eq_zero (Nat.le_zero.1 hc)] at this
    cases this
  rw [zb1 ops.size s js fun i=>⟨hs i,hall i⟩];exact rest s x iv W (f+0) (by omega) hall (hp.of_mem hall) hv
 | succ m ih =>
  intro f s x iv W hc hf hs hcl hp hv;by_cases hall:∀ i∈js,i∈s
  ·rw [zb1 ops.size s js fun i=>⟨hs i,hall i⟩];exact rest s x iv W _ (by omega) hall (hp.of_mem hall) hv
  ·have hmask:mask ops.size s=mask ops.size (js.filter fun i=>s.contains i):=zb1 _ _ _ fun i=>⟨fun h=>List.mem_filter.2 ⟨hs i h,by simpa using h⟩,fun h=>by simpa using (List.mem_filter.1 h).2⟩
   have hk:=List.all_eq_true.1 ok _ (zfl (fun i=>s.contains i) js);have hne:((js.filter fun i=>s.contains i) == js)=false:=by
    apply Bool.eq_false_iff.2;intro e;rw [beq_iff_eq] at e;exact hall fun i hi=>by
     rw [← e] at hi;simpa using (List.mem_filter.1 hi).2
   have hclo:zec md ops (js.filter fun i=>s.contains i)=true:=by
    refine List.all_eq_true.2 fun i hi=>?_;have his:i∈s:=by simpa using (List.mem_filter.1 hi).2
    cases ho:ops[i]? with
    | none=>rfl
    | some o =>
     simp only;refine Array.all_eq_true_iff_forall_mem.2 fun e he=>?_
     cases hbi:Region.binds md e with
     | false=>rfl
     | true =>
      have:=hcl i his o ho e he hbi;simp [this,hs _ this]
   rw [hne,hclo,Bool.false_or,Bool.not_true,Bool.false_or,Bool.and_eq_true] at hk;obtain ⟨h1,h2⟩:=hk;rw [← hmask] at h1 h2;refine wpAny_all rfl (by intro e;rw [e] at h1;simp at h1) fun j hj=>?_;have hj2:=List.all_eq_true.1 h2 j hj;simp only [Bool.and_eq_true,List.contains_iff_mem,Bool.not_eq_true'] at hj2;have hjs:j∈js:=by simpa using hj2.1
   have hjn:¬ j∈s:=fun h=>by
    have:j∈js.filter fun i=>s.contains i:=List.mem_filter.2 ⟨hjs,by simpa using h⟩;have h3:=hj2.2;simp [hjs,h] at h3
   rw [ze0];refine prod j hjs s x iv W hj hjn hp hv _ fun v W' hb hpo hv'=>ih f (j :: s) _ _ W' ?_ hf (fun i hi=>(List.mem_cons.1 hi).elim (fun e=>e ▸ hjs) (hs i)) (fun i hi o ho e he hbi=>List.mem_cons_of_mem _ ((List.mem_cons.1 hi).elim (fun q=>by subst q;exact zdr hj ho ⟨e,he,rfl,hbi⟩) (fun q=>hcl i q o ho e he hbi))) (hp.add stable hjn hb hpo) hv';have hlt:(js.filter fun i=>!(j :: s).contains i).length < (js.filter fun i=>!s.contains i).length:=by
    have e:(js.filter fun i=>!(j :: s).contains i)=(js.filter fun i=>!s.contains i).filter fun i=>!(i == j):=by
     rw [List.filter_filter];apply List.filter_congr;intro i _;by_cases e1:i=j<;>by_cases e2:i∈s<;>simp [e1,e2]
    rw [e,List.length_filter_lt_length_iff_exists];exact ⟨j,List.mem_filter.2 ⟨hjs,by simpa using hjn⟩,by simp⟩
   omega
theorem zey {id:Nat}{w:World}{a0:Act}(hm:P.follows .mixedOrders=true)(js line:List Nat)(act:(Nat->Value)->Act)(x0:Nat->Value)(ha:a0=act x0)(Post:Nat->Nat->Nat->World->Value->Prop)(Inv:List Nat->(Nat->Value)->World->Prop)
  (stable:∀ i lo hi w w' v,Post i lo hi w v->Below w.heap.size w w'->Post i lo hi w' v) (ok:zc8 .any ops js=true) (okl:zc1 .any ops js line=true) (hsz:line.length+js.length=ops.size) (hv:Inv [] x0 w.drew)
  (prod:∀ j∈js,∀ s x iv W,j∈Region.ready .any ops (mask ops.size s)->¬ j∈s->PI w.drew s Post x iv W->Inv s x W->∀ K:Act->World->Prop,(∀ v W',Below W.heap.size W W'->Post j W.heap.size W'.heap.size W' v->Inv (j :: s) (upd x j v) W'->K (act (upd x j v)) W')->wpOp P ops Q j K (act x) W)
  (rest:∀ s x iv W,(∀ i∈js,i∈s)->PI w.drew js Post x iv W->Inv s x W->wpList P ops Q (line.filterMap fun i=>ops[i]?) (act x) W):(Code.region id ops true).wp P Q a0 w:=by
 subst ha;refine wp_region_any hm ?_;have h:=ziv (P:=P) (Q:=Q) (md:=.any) js line.length act w.drew Post Inv stable ok prod (fun s x iv W f hf hs hp hi=>zc9 line js f (act x) W okl hf (rest s x iv W hs hp hi)) js.length line.length [] x0 (fun _=>(0,0)) w.drew (List.length_filter_le _ _) nR (fun i hi=>by cases hi) (fun i hi=>by cases hi) ⟨Below.refl _ _,(fun i hi=>by cases hi),(fun i hi=>by cases hi),(fun i hi=>by cases hi)⟩ hv;rw [hsz,zkx] at h;exact h
end
end Kit
namespace Kit
structure PX (W0:World) (s:List Nat) (Po:Nat->Nat->Nat->World->(Nat->Value)->Prop) (x:Nat->Value) (iv:Nat->Nat×Nat) (w:World):Prop where
 bel:Below W0.heap.size W0 w
 post:∀ i∈s,Po i (iv i).1 (iv i).2 w x
 lo:∀ i∈s,W0.heap.size<=(iv i).1/\(iv i).1<=(iv i).2/\(iv i).2<=w.heap.size
 apart:∀ i∈s,∀ j∈s,i≠j->(iv i).2<=(iv j).1\/(iv j).2<=(iv i).1
theorem PX.add {W0:World}{s:List Nat}{Po:Nat->Nat->Nat->World->(Nat->Value)->Prop}{x:Nat->Value}{iv:Nat->Nat×Nat}{w w':World}{j:Nat}{v:Value}(deps:Nat->List Nat)(h:PX W0 s Po x iv w)
  (stable:∀ i lo hi w w' x,Po i lo hi w x->Below w.heap.size w w'->Po i lo hi w' x) (cong:∀ i lo hi w x x',x i=x' i->(∀ k∈deps i,x k=x' k)->Po i lo hi w x->Po i lo hi w x')
  (hcl:∀ i∈s,∀ k∈deps i,k∈s) (hj:¬ j∈s) (hb:Below w.heap.size w w') (hp:Po j w.heap.size w'.heap.size w' (upd x j v)) :
  PX W0 (j :: s) Po (upd x j v) (upd iv j (w.heap.size,w'.heap.size)) w':=by
 have hs:=h.bel.size;have hs2:=hb.size;have ne:∀ i∈s,i≠j:=fun i hi e=>hj (e ▸ hi);refine ⟨h.bel.trans (hb.mono hs),fun i hi=>?_,fun i hi=>?_,fun i hi k hk hne=>?_⟩
 ·rcases List.mem_cons.1 hi with rfl | hi
  ·rw [zbi];exact hp
  ·rw [za8 _ _ _ _ (ne i hi)];exact cong _ _ _ _ _ _ (za8 _ _ _ _ (ne i hi)).symm (fun k hk=>(za8 _ _ _ _ (ne k (hcl i hi k hk))).symm) (stable _ _ _ _ _ _ (h.post i hi) hb)
 ·rcases List.mem_cons.1 hi with rfl | hi
  ·rw [zbi];exact ⟨hs,hs2,Nat.le_refl _⟩
  ·rw [za8 _ _ _ _ (ne i hi)];have:=h.lo i hi;omega
 ·rcases List.mem_cons.1 hi with ei | hi2
  ·rcases List.mem_cons.1 hk with ek | hk2
   ·exact absurd (ei.trans ek.symm) hne
   ·rw [ei,zbi,za8 _ _ _ _ (ne k hk2)];exact .inr (h.lo k hk2).2.2
  ·rcases List.mem_cons.1 hk with ek | hk2
   ·rw [ek,zbi,za8 _ _ _ _ (ne i hi2)];exact .inl (h.lo i hi2).2.2
   ·rw [za8 _ _ _ _ (ne i hi2),za8 _ _ _ _ (ne k hk2)];exact h.apart i hi2 k hk2 hne
theorem PX.of_mem {W0:World}{s s':List Nat}{Po:Nat->Nat->Nat->World->(Nat->Value)->Prop}{x:Nat->Value}{iv:Nat->Nat×Nat}{w:World}(h:PX W0 s Po x iv w)(hs:∀ i∈s',i∈s):PX W0 s' Po x iv w :=
 ⟨h.bel,fun i hi=>h.post i (hs i hi),fun i hi=>h.lo i (hs i hi),fun i hi j hj=>h.apart i (hs i hi) j (hs j hj)⟩
def ziw (ops:Array Oper) (js:List Nat) (deps:Nat->List Nat):Bool:=js.all fun j=>match ops[j]? with | some o=>(deps j).all fun k=>o.after.any fun e=>e.on == k && Region.binds .any e | none=>false
section
variable {P : Program} {ops : Array Oper} {Q : Exit -> Act -> World -> Prop}
theorem zds {id:Nat}{w:World}{a0:Act}(hm:P.follows .mixedOrders=true)(js line:List Nat)(deps:Nat->List Nat)(act:(Nat->Value)->Act)(x0:Nat->Value)(ha:a0=act x0)(Po:Nat->Nat->Nat->World->(Nat->Value)->Prop)
  (stable:∀ i lo hi w w' x,Po i lo hi w x->Below w.heap.size w w'->Po i lo hi w' x) (cong:∀ i lo hi w x x',x i=x' i->(∀ k∈deps i,x k=x' k)->Po i lo hi w x->Po i lo hi w x')
  (ok:zc8 .any ops js=true) (okl:zc1 .any ops js line=true) (okd:ziw ops js deps=true) (hsz:line.length+js.length=ops.size)
  (prod:∀ j∈js,∀ s x iv W,(∀ k∈deps j,k∈s)->PX w.drew s Po x iv W->∀ K:Act->World->Prop,(∀ v W',Below W.heap.size W W'->Po j W.heap.size W'.heap.size W' (upd x j v)->K (act (upd x j v)) W')->wpOp P ops Q j K (act x) W)
  (rest:∀ x iv W,PX w.drew js Po x iv W->wpList P ops Q (line.filterMap fun i=>ops[i]?) (act x) W):(Code.region id ops true).wp P Q a0 w:=by
 have dep:∀ j∈js,∀ s,j∈Region.ready .any ops (mask ops.size s)->∀ k∈deps j,k∈s:=by
  intro j hj s hr k hk;have h:=List.all_eq_true.1 okd j hj
  cases ho:ops[j]? with
  | none=>rw [ho] at h;cases h
  | some o =>
   rw [ho] at h;simp only [List.all_eq_true,Array.any_eq_true] at h;obtain ⟨i,hi,h2⟩:=h k hk;simp only [Bool.and_eq_true,beq_iff_eq] at h2;exact zdr hr ho ⟨o.after[i],Array.getElem_mem hi,h2.1,h2.2⟩
 refine zey hm js line act x0 ha (fun _ _ _ _ _=>True) (fun s x W=>(∀ i∈s,∀ k∈deps i,k∈s)/\∃ iv,PX w.drew s Po x iv W) (fun _ _ _ _ _ _ _ _=>trivial) ok okl hsz ⟨(fun i hi=>by cases hi),fun _=>(0,0),⟨Below.refl _ _,(fun i hi=>by cases hi),(fun i hi=>by cases hi),(fun i hi=>by cases hi)⟩⟩ ?_ ?_
 ·intro j hj s x iv W hr hns _ hI K hK;obtain ⟨hcl,iv2,hp⟩:=hI;have hd:=dep j hj s hr;refine prod j hj s x iv2 W hd hp K fun v W' hb hpo=>hK v W' hb trivial ⟨fun i hi k hk=>?_,_,hp.add deps stable cong hcl hns hb hpo⟩;rcases List.mem_cons.1 hi with rfl | hi
  ·exact List.mem_cons_of_mem _ (hd k hk)
  ·exact List.mem_cons_of_mem _ (hcl i hi k hk)
 ·intro s x iv W hs _ hI;obtain ⟨-,iv2,hp⟩:=hI;exact rest x iv2 W (hp.of_mem hs)
end
end Kit
namespace Kit
structure Mk where
 deps:List Nat
 P:Nat->Nat->World->Value->(Nat->Value)->Prop
 st:∀ lo hi w w' v x,P lo hi w v x->Below w.heap.size w w'->P lo hi w' v x
 cg:∀ lo hi w v x x',(∀ k∈deps,x k=x' k)->P lo hi w v x->P lo hi w v x'
def Mk.triv:Mk:=⟨[],fun _ _ _ _ _=>True,fun _ _ _ _ _ _ _ _=>trivial,fun _ _ _ _ _ _ _ _=>trivial⟩
def Mk.const (deps:List Nat) (C:Value):Mk:=⟨deps,fun _ _ _ v _=>v=C,fun _ _ _ _ _ _ h _=>h,fun _ _ _ _ _ _ _ h=>h⟩
def Mk.val (deps:List Nat) (R:Nat->Nat->World->Value->Prop) (st:∀ lo hi w w' v,R lo hi w v->Below w.heap.size w w'->R lo hi w' v):Mk :=
 ⟨deps,fun lo hi w v _=>R lo hi w v,fun lo hi w w' v _ h hb=>st lo hi w w' v h hb,fun _ _ _ _ _ _ _ h=>h⟩
def Mk.val1 (deps:List Nat) (k:Nat) (hk:k∈deps) (R:Nat->Nat->World->Value->Value->Prop) (st:∀ lo hi w w' u v,R lo hi w u v->Below w.heap.size w w'->R lo hi w' u v):Mk :=
 ⟨deps,fun lo hi w v x=>R lo hi w (x k) v,fun lo hi w w' v x h hb=>st lo hi w w' (x k) v h hb,fun lo hi w v x x' e h=>by rw [← e k hk];exact h⟩
def actOf (a:Act):List Nat->Nat->(Nat->Value)->Act
 | [],_,_=>a
 | s :: r,i,x=>actOf (a.put (some s) (x i)) r (i+1) x
section
variable {P : Program} {ops : Array Oper} {Q : Exit -> Act -> World -> Prop}
theorem zix {id:Nat}{w:World}{a0:Act}(hm:P.follows .mixedOrders=true)(js line sl:List Nat)(L:Nat->Mk)(x0:Nat->Value)(ha:a0=actOf a0 sl 0 x0)
  (ok:zc8 .any ops js=true) (okl:zc1 .any ops js line=true) (okd:ziw ops js (fun i=>(L i).deps)=true) (hsz:line.length+js.length=ops.size)
  (prod:∀ j∈js,∀ s x iv W,(∀ k∈(L j).deps,k∈s)->PX w.drew s (fun i lo hi w x=>(L i).P lo hi w (x i) x) x iv W->∀ K:Act->World->Prop,(∀ v W',Below W.heap.size W W'->(L j).P W.heap.size W'.heap.size W' v (upd x j v)->K (actOf a0 sl 0 (upd x j v)) W')->wpOp P ops Q j K (actOf a0 sl 0 x) W)
  (rest:∀ x iv W,PX w.drew js (fun i lo hi w x=>(L i).P lo hi w (x i) x) x iv W->wpList P ops Q (line.filterMap fun i=>ops[i]?) (actOf a0 sl 0 x) W):(Code.region id ops true).wp P Q a0 w :=
 zds hm js line (fun i=>(L i).deps) (actOf a0 sl 0) x0 ha (fun i lo hi w x=>(L i).P lo hi w (x i) x) (fun i lo hi w w' x h hb=>(L i).st lo hi w w' (x i) x h hb)
  (fun i lo hi w x x' e1 e2 h=>by rw [← e1];exact (L i).cg lo hi w (x i) x x' e2 h) ok okl okd hsz (fun j hj s x iv W hd hp K hK=>prod j hj s x iv W hd hp K fun v W' hb h=>hK v W' hb (by rw [zbi];exact h)) rest
theorem zg9 {id:Nat}{w:World}{a0:Act}(hm:P.follows .mixedOrders=true)(js line sl:List Nat)(L:Nat->Mk)(ha:a0=actOf a0 sl 0 (fun i=>a0.tmps.getD (sl.getD i 0) undef))
  (ok:zc8 .any ops js=true) (okl:zc1 .any ops js line=true) (okd:ziw ops js (fun i=>(L i).deps)=true) (hsz:line.length+js.length=ops.size)
  (prod:∀ j∈js,∀ s x iv W,(∀ k∈(L j).deps,k∈s)->PX w.drew s (fun i lo hi w x=>(L i).P lo hi w (x i) x) x iv W->∀ K:Act->World->Prop,(∀ v W',Below W.heap.size W W'->(L j).P W.heap.size W'.heap.size W' v (upd x j v)->K (actOf a0 sl 0 (upd x j v)) W')->wpOp P ops Q j K (actOf a0 sl 0 x) W)
  (rest:∀ x iv W,PX w.drew js (fun i lo hi w x=>(L i).P lo hi w (x i) x) x iv W->wpList P ops Q (line.filterMap fun i=>ops[i]?) (actOf a0 sl 0 x) W):(Code.region id ops true).wp P Q a0 w :=
 zix hm js line sl L _ ha ok okl okd hsz prod rest
theorem zbb {id:Nat}{w:World}{a0:Act}(hm:P.follows .mixedOrders=true)(js line:List Nat)(L:Nat->Mk)(act:(Nat->Value)->Act)(x0:Nat->Value)(ha:a0=act x0)
  (ok:zc8 .any ops js=true) (okl:zc1 .any ops js line=true) (okd:ziw ops js (fun i=>(L i).deps)=true) (hsz:line.length+js.length=ops.size)
  (prod:∀ j∈js,∀ s x iv W,(∀ k∈(L j).deps,k∈s)->PX w.drew s (fun i lo hi w x=>(L i).P lo hi w (x i) x) x iv W->∀ K:Act->World->Prop,(∀ v W',Below W.heap.size W W'->(L j).P W.heap.size W'.heap.size W' v (upd x j v)->K (act (upd x j v)) W')->wpOp P ops Q j K (act x) W)
  (rest:∀ x iv W,PX w.drew js (fun i lo hi w x=>(L i).P lo hi w (x i) x) x iv W->wpList P ops Q (line.filterMap fun i=>ops[i]?) (act x) W):(Code.region id ops true).wp P Q a0 w :=
 zds hm js line (fun i=>(L i).deps) act x0 ha (fun i lo hi w x=>(L i).P lo hi w (x i) x) (fun i lo hi w w' x h hb=>(L i).st lo hi w w' (x i) x h hb)
  (fun i lo hi w x x' e1 e2 h=>by rw [← e1];exact (L i).cg lo hi w (x i) x x' e2 h) ok okl okd hsz (fun j hj s x iv W hd hp K hK=>prod j hj s x iv W hd hp K fun v W' hb h=>hK v W' hb (by rw [zbi];exact h)) rest
end
end Kit
namespace Kit
def zdt (md:Region.Mode) (ops:Array Oper) (js:List Nat) (exits:List (List Nat)):Bool :=
 (subs js).all fun t=>t == js || exits.contains t || !zec md ops t || (!(Region.ready md ops (mask ops.size t)).isEmpty && (Region.ready md ops (mask ops.size t)).all fun i=>js.contains i && !t.contains i)
def altOk (md:Region.Mode) (ops:Array Oper) (t:List Nat) (lines:List (List Nat)):Bool :=
 (Region.ready md ops (mask ops.size t)).all (fun j=>lines.any fun l=>match l with | i :: r=>i == j && (ops[i]?).isSome && zc1 md ops (i :: t) r | []=>false) && !(Region.ready md ops (mask ops.size t)).isEmpty
section
variable {P : Program} {ops : Array Oper} {Q : Exit -> Act -> World -> Prop} {md : Region.Mode}
theorem zlx (t:List Nat)(lines:List (List Nat))(fuel:Nat)(a:Act)(w:World)(h:altOk md ops t lines=true)(hl:∀ l∈lines,l.length<=fuel)(hw:∀ l∈lines,wpList P ops Q (l.filterMap fun i=>ops[i]?) a w):wpAny P md ops Q fuel (mask ops.size t) a w:=by
 simp only [altOk,Bool.and_eq_true,List.all_eq_true,List.any_eq_true] at h;obtain ⟨h1,h2⟩:=h
 cases fuel with
 | zero =>
  exfalso
  cases hr:Region.ready md ops (mask ops.size t) with
  | nil=>rw [hr] at h2;simp at h2
  | cons j r =>
   obtain ⟨l,hl1,hl2⟩:=h1 j (by rw [hr];simp)
   cases l with
   | nil=>simp at hl2
   | cons i r=>have:=hl _ hl1;simp at this
 | succ fuel =>
  refine wpAny_all rfl (by intro e;rw [e] at h2;simp at h2) fun j hj=>?_;obtain ⟨l,hl1,hl2⟩:=h1 j hj
  cases l with
  | nil=>simp at hl2
  | cons i r =>
   simp only [Bool.and_eq_true,beq_iff_eq] at hl2;obtain ⟨⟨rfl,h3⟩,h4⟩:=hl2;obtain ⟨o,ho⟩:=Option.isSome_iff_exists.1 h3;rw [ze0];have hw':wpList P ops Q (o :: r.filterMap fun i=>ops[i]?) a w:=by simpa [ho] using hw _ hl1
   refine wpOp_mono (fun a w hq=>zc9 r (i :: t) fuel a w h4 (by have:=hl _ hl1;simpa using this) hq) ?_;unfold wpOp;rw [ho];exact hw'
theorem zha (js:List Nat)(exits:List (List Nat))(fuel:Nat)(act:(Nat->Value)->Act)(Inv:List Nat->(Nat->Value)->World->Prop)(ok:zdt md ops js exits=true)
  (prod:∀ j∈js,∀ s x W,j∈Region.ready md ops (mask ops.size s)->¬ j∈s->Inv s x W->∀ K:Act->World->Prop,(∀ v W',Inv (j :: s) (upd x j v) W'->K (act (upd x j v)) W')->wpOp P ops Q j K (act x) W)
  (rest:∀ s x W f,fuel<=f->(∀ i∈js,i∈s)->Inv s x W->wpAny P md ops Q f (mask ops.size js) (act x) W)
  (out:∀ t∈exits,∀ s x W f,fuel+(js.filter fun i=>!t.contains i).length<=f->(∀ i,i∈s↔i∈t)->Inv s x W->wpAny P md ops Q f (mask ops.size t) (act x) W) :
  ∀ (m f:Nat) (s:List Nat) (x:Nat->Value) (W:World),(js.filter fun i=>!s.contains i).length<=m->fuel<=f->(∀ i∈s,i∈js)->(∀ i∈s,∀ o,ops[i]?=some o->∀ e∈o.after,Region.binds md e=true->e.on∈s)->Inv s x W->wpAny P md ops Q (f+m) (mask ops.size s) (act x) W:=by
 intro m
 induction m with
 | zero =>
  intro f s x W hc hf hs hcl hv;have hall:∀ i∈js,i∈s:=fun i hi=>by
   by_cases h:i∈s
   ·exact h
   ·have:i∈js.filter fun i=>!s.contains i:=List.mem_filter.2 ⟨hi,by simpa using h⟩;rw [List.eq_nil_of_length_eq_zero (Nat.le_zero.1 hc)] at this
    cases this
  rw [zb1 ops.size s js fun i=>⟨hs i,hall i⟩];exact rest s x W (f+0) (by omega) hall hv
 | succ m ih =>
  intro f s x W hc hf hs hcl hv;by_cases hall:∀ i∈js,i∈s
  ·rw [zb1 ops.size s js fun i=>⟨hs i,hall i⟩];exact rest s x W _ (by omega) hall hv
  ·have hst:∀ i,i∈s↔i∈js.filter fun i=>s.contains i:=fun i=>⟨fun h=>List.mem_filter.2 ⟨hs i h,by simpa using h⟩,fun h=>by simpa using (List.mem_filter.1 h).2⟩
   have hmask:mask ops.size s=mask ops.size (js.filter fun i=>s.contains i):=zb1 _ _ _ hst;by_cases hex:(js.filter fun i=>s.contains i)∈exits
   ·rw [hmask];refine out _ hex s x W _ ?_ hst hv;have e:(js.filter fun i=>!(js.filter fun i=>s.contains i).contains i)=js.filter fun i=>!s.contains i:=by
     apply List.filter_congr;intro i hi;by_cases e2:i∈s<;>simp [hi,e2]
    rw [e];omega
   have hk:=List.all_eq_true.1 ok _ (zfl (fun i=>s.contains i) js);have hne:((js.filter fun i=>s.contains i) == js)=false:=by
    apply Bool.eq_false_iff.2;intro e;rw [beq_iff_eq] at e;exact hall fun i hi=>by
     rw [← e] at hi;simpa using (List.mem_filter.1 hi).2
   have hexf:exits.contains (js.filter fun i=>s.contains i)=false:=by
    apply Bool.eq_false_iff.2;intro e;exact hex (by simpa using e)
   have hclo:zec md ops (js.filter fun i=>s.contains i)=true:=by
    refine List.all_eq_true.2 fun i hi=>?_;have his:i∈s:=by simpa using (List.mem_filter.1 hi).2
    cases ho:ops[i]? with
    | none=>rfl
    | some o =>
     simp only;refine Array.all_eq_true_iff_forall_mem.2 fun e he=>?_
     cases hbi:Region.binds md e with
     | false=>rfl
     | true =>
      have:=hcl i his o ho e he hbi;simp [this,hs _ this]
   rw [hne,hexf,hclo,Bool.false_or,Bool.false_or,Bool.not_true,Bool.false_or,Bool.and_eq_true] at hk;obtain ⟨h1,h2⟩:=hk;rw [← hmask] at h1 h2;refine wpAny_all rfl (by intro e;rw [e] at h1;simp at h1) fun j hj=>?_;have hj2:=List.all_eq_true.1 h2 j hj;simp only [Bool.and_eq_true,List.contains_iff_mem,Bool.not_eq_true'] at hj2;have hjs:j∈js:=by simpa using hj2.1
   have hjn:¬ j∈s:=fun h=>by
    have:j∈js.filter fun i=>s.contains i:=List.mem_filter.2 ⟨hjs,by simpa using h⟩;have h3:=hj2.2;simp [hjs,h] at h3
   rw [ze0];refine prod j hjs s x W hj hjn hv _ fun v W' hv'=>ih f (j :: s) _ W' ?_ hf (fun i hi=>(List.mem_cons.1 hi).elim (fun e=>e ▸ hjs) (hs i)) (fun i hi o ho e he hbi=>List.mem_cons_of_mem _ ((List.mem_cons.1 hi).elim (fun q=>by subst q;exact zdr hj ho ⟨e,he,rfl,hbi⟩) (fun q=>hcl i q o ho e he hbi))) hv';have hlt:(js.filter fun i=>!(j :: s).contains i).length < (js.filter fun i=>!s.contains i).length:=by
    have e:(js.filter fun i=>!(j :: s).contains i)=(js.filter fun i=>!s.contains i).filter fun i=>!(i == j):=by
     rw [List.filter_filter];apply List.filter_congr;intro i _;by_cases e1:i=j<;>by_cases e2:i∈s<;>simp [e1,e2]
    rw [e,List.length_filter_lt_length_iff_exists];exact ⟨j,List.mem_filter.2 ⟨hjs,by simpa using hjn⟩,by simp⟩
   omega
def altsOk (md:Region.Mode) (ops:Array Oper) (js line:List Nat) (alts:List (List Nat×List (List Nat))):Bool :=
 alts.all fun q=>altOk md ops q.1 q.2 && q.2.all fun l=>decide (l.length<=line.length+(js.filter fun i=>!q.1.contains i).length)
theorem zad {id:Nat}{w:World}{a0:Act}(hm:P.follows .mixedOrders=true)(js line:List Nat)(alts:List (List Nat×List (List Nat)))(L:Nat->Mk)(act:(Nat->Value)->Act)(x0:Nat->Value)(ha:a0=act x0)
  (ok:zdt .any ops js (alts.map (·.1))=true) (okl:zc1 .any ops js line=true) (oka:altsOk .any ops js line alts=true) (okd:ziw ops js (fun i=>(L i).deps)=true) (hsz:line.length+js.length=ops.size)
  (prod:∀ j∈js,∀ s x iv W,(∀ k∈(L j).deps,k∈s)->PX w.drew s (fun i lo hi w x=>(L i).P lo hi w (x i) x) x iv W->∀ K:Act->World->Prop,(∀ v W',Below W.heap.size W W'->(L j).P W.heap.size W'.heap.size W' v (upd x j v)->K (act (upd x j v)) W')->wpOp P ops Q j K (act x) W)
  (rest:∀ x iv W,PX w.drew js (fun i lo hi w x=>(L i).P lo hi w (x i) x) x iv W->wpList P ops Q (line.filterMap fun i=>ops[i]?) (act x) W)
  (out:∀ q∈alts,∀ l∈q.2,∀ x iv W,PX w.drew q.1 (fun i lo hi w x=>(L i).P lo hi w (x i) x) x iv W->wpList P ops Q (l.filterMap fun i=>ops[i]?) (act x) W):(Code.region id ops true).wp P Q a0 w:=by
 have dep:∀ j∈js,∀ s,j∈Region.ready .any ops (mask ops.size s)->∀ k∈(L j).deps,k∈s:=by
  intro j hj s hr k hk;have h:=List.all_eq_true.1 okd j hj
  cases ho:ops[j]? with
  | none=>rw [ho] at h;cases h
  | some o =>
   rw [ho] at h;simp only [List.all_eq_true,Array.any_eq_true] at h;obtain ⟨i,hi,h2⟩:=h k hk;simp only [Bool.and_eq_true,beq_iff_eq] at h2;exact zdr hr ho ⟨o.after[i],Array.getElem_mem hi,h2.1,h2.2⟩
 subst ha;refine wp_region_any hm ?_;have h:=zha (P:=P) (Q:=Q) (md:=.any) js (alts.map (·.1)) line.length act (fun s x W=>(∀ i∈s,∀ k∈(L i).deps,k∈s)/\∃ iv,PX w.drew s (fun i lo hi w x=>(L i).P lo hi w (x i) x) x iv W) ok ?_ ?_ ?_ js.length line.length [] x0 w.drew (List.length_filter_le _ _) nR (fun i hi=>by cases hi) (fun i hi=>by cases hi) ⟨(fun i hi=>by cases hi),fun _=>(0,0),⟨Below.refl _ _,(fun i hi=>by cases hi),(fun i hi=>by cases hi),(fun i hi=>by cases hi)⟩⟩
 ·rw [hsz,zkx] at h;exact h
 ·intro j hj s x W hr hns hI K hK;obtain ⟨hcl,iv2,hp⟩:=hI;have hd:=dep j hj s hr;refine prod j hj s x iv2 W hd hp K fun v W' hb hpo=>hK v W' ⟨fun i hi k hk=>?_,_,hp.add (fun i=>(L i).deps) (fun i lo hi w w' x h hb=>(L i).st lo hi w w' (x i) x h hb) (fun i lo hi w x x' e1 e2 h=>by rw [← e1];exact (L i).cg lo hi w (x i) x x' e2 h) hcl hns hb (by rw [zbi];exact hpo)⟩;rcases List.mem_cons.1 hi with rfl | hi
  ·exact List.mem_cons_of_mem _ (hd k hk)
  ·exact List.mem_cons_of_mem _ (hcl i hi k hk)
 ·intro s x W f hf hs hI;obtain ⟨-,iv2,hp⟩:=hI;exact zc9 line js f (act x) W okl hf (rest x iv2 W (hp.of_mem hs))
 ·intro t ht s x W f hf hst hI;obtain ⟨-,iv2,hp⟩:=hI;obtain ⟨q,hq,rfl⟩:=List.mem_map.1 ht;have h1:=List.all_eq_true.1 oka q hq;simp only [Bool.and_eq_true,List.all_eq_true,decide_eq_true_eq] at h1;exact zlx q.1 q.2 f (act x) W h1.1 (fun l hl=>Nat.le_trans (h1.2 l hl) hf) fun l hl=>out q hq l hl x iv2 W (hp.of_mem fun i hi=>(hst i).2 hi)
end
end Kit
end Go.Proofs.YtmlfihmheolpeaaGreat
