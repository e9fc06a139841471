/- Texts of the proof, bundled. -/
import Derived.BigQuiet
import Derived.Deep.AppendLies
import Derived.Deep.DeepCutAuto
import Derived.Deep.CutRange
import Derived.BigRegion
import Derived.RegionTactic
import Derived.Handy
import Derived.Laws.Cover1
import Derived.Test.YtmlfihmheolpeaaGreatRows
import Derived.Deep.QuietTactic
import Derived.Deep.OwnRows
import Derived.Deep.Upon
import Derived.Shelf.Small.Bits
import Derived.Shelf.Small.Wraps
import Derived.Shelf.Strconv.Itoa0
import Derived.Shelf.LaysM
import Derived.Shelf.Strconv.Clone
import Derived.Shelf.Sort.Plain
import Derived.Shelf.Slices.Turned
import Derived.Ground.Names2Prog
import Derived.Shelf.Slices.SearchI
import Derived.Shelf.Slices.In.SortNone
import Derived.Ground.SlgnProg
import Derived.Shelf.SlicesE.Equal
import Derived.Test.YtmlfihmheolpeaaGreatProg
import Derived.Laws.EntriesVeiled
import Derived.Deep.LoopGhost
import Derived.Sort.OwnSortedInts
import Derived.Test.YtmlfihmheolpeaaGreatU01
set_option maxRecDepth 100000
set_option maxHeartbeats 12800000
namespace Go.Proofs.YtmlfihmheolpeaaGreat
namespace Kit
open Go.RowKit
section
variable {P : Program} {ops : Array Oper} {Q : Exit -> Act -> World -> Prop} {a : Act} {w : World}
theorem line2 {i j:Nat}{o1 o2:Oper}(h1:ops[i]?=some o1)(h2:ops[j]?=some o2)(h:wpList P ops Q [o1,o2] a w):wpList P ops Q ([i,j].filterMap fun k=>ops[k]?) a w:=by
 simpa [h1,h2] using h
theorem line3 {i j k:Nat}{o1 o2 o3:Oper}(h1:ops[i]?=some o1)(h2:ops[j]?=some o2)(h3:ops[k]?=some o3)(h:wpList P ops Q [o1,o2,o3] a w):wpList P ops Q ([i,j,k].filterMap fun k=>ops[k]?) a w:=by
 simpa [h1,h2,h3] using h
end
def MkW (T:TypeId) (Z:Array Value):Mk:=.val [] (fun lo hi w v=>v=.pointer (some ⟨lo,0,none⟩)/\hi=lo+1/\AtC w lo T Z) (fun _ _ _ _ _ h hb=>⟨h.1,h.2.1,h.2.2.over hb⟩)
def fstOf:Value->Value
 | .tuple xs=>xs.getD 0 undef
 | u=>u
def MkBf (k l:Nat) (w0:World) (d:Bool) (t:ByteArray) (ss:List Sl) (f:Bool):Mk:=.val [k,l] (fun _ _ _ v=>∃ a c,v=.tuple #[.agg #[.bool d,.slice a ss.length c,.string t],.bool f]/\RSl w0 (.slice a ss.length c) ss)
 (fun _ _ _ _ _ h _=>h)
def MkBv (k:Nat) (d:Bool) (t:ByteArray) (n:Nat) (f:Bool):Mk:=.val1 [k] k (by simp) (fun _ _ _ u v=>u=v/\∃ a c,v=.tuple #[.agg #[.bool d,.slice a n c,.string t],.bool f]) (fun _ _ _ _ _ _ h _=>h)
def MkBx (k:Nat):Mk:=.val1 [k] k (by simp) (fun _ _ _ u v=>v=fstOf u) (fun _ _ _ _ _ _ h _=>h)
end Kit
open Go.RowKit Kit
theorem zm9 {xs ys:List Bool}{is:List Ino}{bs:List Blk}(hB:Big 1048576 xs ys is bs)(x:Int):(blkAt bs x).2.1.length<=1048576:=by
 unfold blkAt
 split
 ·by_cases h:(x - 1).toNat < bs.length
  ·rw [List.getD_eq_getElem?_getD,List.getElem?_eq_getElem h];exact (hB.s _ h).1
  ·rw [List.getD_eq_getElem?_getD,List.getElem?_eq_none (by omega)];exact Nat.zero_le _
 ·exact Nat.zero_le _
theorem find_any (x:Int)(nm:ByteArray)(dx dy iv bv:Value)(xs ys:List Bool)(is:List Ino)(bs:List Blk)(w:World)(h:DR w dx dy iv bv xs ys is bs)(hB:Big 1048576 xs ys is bs)(hne:¬ nm=⟨#[]⟩) :
  Calls Tryz.prog 79 #[.agg #[dx,dy,iv,bv],.int .i64 x,.string nm] w fun e w'=>∃ B s:Int,e=.returned (.tuple #[.int .i64 B,.int .i64 s,.int .i64 (findI (named is bs x) nm)])/\Below w.heap.size w w':=by
 have H:=hide h;have HG:=hide hB;obtain ⟨a3,c3,rfl,-,hc⟩:=h.i;have HC:=hide hc;clear h hc hB
 cases hb:inB x 1 is.length with
 | false =>
  have HX:=hide hb;have e0:findI (named is bs x) nm=0:=by unfold named;rw [zaz hb];rfl
  rw [e0];clear hb e0;have HB:Hid (∀ A,Below w.heap.size w (w.alloc (.cells A 35))):=fun A=>(Below.refl _ w).alloc nR _;go_enter Tryz.func79,Tryz.ntmps79
  go_wp2_with fail
  refine (zam x 1 _ _).mono ?_;rintro e w1 ⟨rfl,rfl⟩;rw [HX.out];go_wp2
  go_ret3
  exact ⟨0,0,rfl,HB.out _⟩
 | true =>
  have HX:=hide hb;obtain ⟨h1,h2⟩:=zao hb;clear hb;obtain ⟨j,rfl⟩:∃ j:Nat,x=(j:Int)+1:=⟨(x - 1).toNat,by omega⟩
  have hj:j < is.length:=by omega
  obtain ⟨g,off,t,rfl,hg,k0,k1,k2,r1,r2,r3⟩:=HC.out j hj;obtain ⟨t0,t1,t2⟩:=t;simp only at r1 r2 r3 k0 k1 k2;subst r1 r2;have hps:=HG.out.p j hj;have hil:is.length<=1048576:=HG.out.i;have hnm:named is bs ((j:Int)+1)=if is[j].1=2 then nmdP bs is[j].2.2 else []:=by unfold named;rw [(zai hj).1,(zai hj).2]
  rw [hnm];obtain ⟨RES,hRES⟩:∃ r,findI (if is[j].1=2 then nmdP bs is[j].2.2 else []) nm=r:=⟨_,rfl⟩
  rw [hRES];have HRES0:=hide hRES;clear hnm hRES;generalize is[j].1=kd at *;generalize is[j].2.1=ln at *;generalize is[j].2.2=ps at *;have HNE:=hide (ne_size hne);clear hne;have HR:=hide r3;obtain ⟨pa,pc,rfl,-⟩:=r3;have HB:Hid (Below w.heap.size w (w.alloc (.cells #[dx,dy,.slice (some ⟨g,off,none⟩) is.length c3,bv] 35))):=(Below.refl _ w).alloc nR _;have n0:(w.alloc (.cells #[dx,dy,.slice (some ⟨g,off,none⟩) is.length c3,bv] 35)).cell? ⟨g,off+j * 3,none⟩=some (.int .i64 kd):=(HB.out.cell (p:=⟨g,off+j * 3,none⟩) hg).trans k0;have n1:(w.alloc (.cells #[dx,dy,.slice (some ⟨g,off,none⟩) is.length c3,bv] 35)).cell? ⟨g,off+j * 3+1,none⟩=some (.int .i64 ln):=(HB.out.cell (p:=⟨g,off+j * 3+1,none⟩) hg).trans k1;have n2:(w.alloc (.cells #[dx,dy,.slice (some ⟨g,off,none⟩) is.length c3,bv] 35)).cell? ⟨g,off+j * 3+2,none⟩=some (.slice pa ps.length pc):=(HB.out.cell (p:=⟨g,off+j * 3+2,none⟩) hg).trans k2;have j0:(0:Int)<=(j:Int):=by omega
  have j1:(j:Int) < (is.length:Int):=by omega
  clear k0 k1 k2;go_enter Tryz.func79,Tryz.ntmps79
  go_wp2_with fail
  refine (zam _ 1 _ _).mono ?_;rintro e w1 ⟨rfl,rfl⟩;rw [HX.out];by_cases hk:kd=2
  ·subst hk;have HRES:Hid (findI (nmdP bs ps) nm=RES):=by have:=HRES0.out;rw [if_pos rfl] at this;exact this
   clear HRES0;have HW:Hid (∀ W,Below ((w.alloc (.cells #[dx,dy,.slice (some ⟨g,off,none⟩) is.length c3,bv] 35)).alloc (.cells #[.int .i64 2,.int .i64 ln,.slice pa ps.length pc] 63)).heap.size ((w.alloc (.cells #[dx,dy,.slice (some ⟨g,off,none⟩) is.length c3,bv] 35)).alloc (.cells #[.int .i64 2,.int .i64 ln,.slice pa ps.length pc] 63)) W->AtC W w.heap.size 35 #[dx,dy,.slice (some ⟨g,off,none⟩) is.length c3,bv]/\AtC W (w.heap.size+1) 63 #[.int .i64 2,.int .i64 ln,.slice pa ps.length pc]/\Below w.heap.size w W/\RInts W (.slice pa ps.length pc) ps/\DR W dx dy (.slice (some ⟨g,off,none⟩) is.length c3) bv xs ys is bs):=fun W b=>by
    have q2:=(AtC.new (w.alloc (.cells #[dx,dy,.slice (some ⟨g,off,none⟩) is.length c3,bv] 35)) 63 #[.int .i64 2,.int .i64 ln,.slice pa ps.length pc]).over b;simp at q2;have bb:Below w.heap.size w W:=(((Below.refl _ w).alloc nR _).alloc (by simp) _).trans (b.mono (by simp;omega));exact ⟨((AtC.new w 35 _).alloc _).over b,q2,bb,HR.out.below bb nR,H.out.below bb nR⟩
   go_wp2;go_loopw [10] (fun i wr=>∃ q:Nat,q<=ps.length/\i=.int .i64 q/\Hid (∀ s∈nmdP bs (ps.take q),¬ s.1=nm)/\Hid (Below ((w.alloc (.cells #[dx,dy,.slice (some ⟨g,off,none⟩) is.length c3,bv] 35)).alloc (.cells #[.int .i64 2,.int .i64 ln,.slice pa ps.length pc] 63)).heap.size ((w.alloc (.cells #[dx,dy,.slice (some ⟨g,off,none⟩) is.length c3,bv] 35)).alloc (.cells #[.int .i64 2,.int .i64 ln,.slice pa ps.length pc] 63)) wr)) (fun i _=>ps.length - (intOf i).toNat)
   case atStart=>exact ⟨0,Nat.zero_le _,rfl,(fun s hs=>by simp [nmdP] at hs),Below.refl _ _⟩
   case round =>
    obtain ⟨q,hq,rfl,HNO,HQ⟩:=hrel;obtain ⟨A0,A1,-,-,-⟩:=HW.out wr HQ.out;have y2:wr.cell? ⟨w.heap.size+1,2,none⟩=some (.slice pa ps.length pc):=A1.cell 2;clear A0 A1;by_cases hlt:q < ps.length
    ·obtain ⟨A0,A1,-,rI,dR⟩:=HW.out wr HQ.out;obtain ⟨pa',pc',e1,hcp⟩:=rI;simp only [Value.slice.injEq,true_and] at e1;obtain ⟨rfl,rfl⟩:=e1;obtain ⟨gp,op,rfl,hgp,kp⟩:=hcp q hlt;obtain ⟨Pn,hPn⟩:∃ Pn,ps[q]=Pn:=⟨_,rfl⟩
     rw [hPn] at kp;have HPN:=hide hPn;have HD:=hide dR;have hbl:bs.length<=1048576:=HG.out.b;have CB:=hide (fun (W:World) (hd:Below wr.heap.size wr W)=>zfa Pn dx dy (.slice (some ⟨g,off,none⟩) is.length c3) bv xs ys is bs wr W HD.out hd hbl);have hbn:=zm9 HG.out Pn;obtain ⟨⟨bd,bss,btx⟩,hBD⟩:∃ X,blkAt bs Pn=X:=⟨_,rfl⟩
     obtain ⟨F,hF⟩:∃ F,inB Pn 1 bs.length=F:=⟨_,rfl⟩
     rw [hBD,hF] at CB;rw [hBD] at hbn;have HBD:=hide hBD;have HFF:=hide hF;have q0:(0:Int)<=(q:Int):=by omega
     have q1:(q:Int) < (ps.length:Int):=by omega
     have HC2:Hid (∀ W,Below wr.drew.heap.size wr.drew W->AtC W w.heap.size 35 #[dx,dy,.slice (some ⟨g,off,none⟩) is.length c3,bv]/\AtC W (w.heap.size+1) 63 #[.int .i64 2,.int .i64 ln,.slice (some ⟨gp,op,none⟩) ps.length pc]/\W.cell? ⟨gp,op+q,none⟩=some (.int .i64 Pn)/\DR W dx dy (.slice (some ⟨g,off,none⟩) is.length c3) bv xs ys is bs):=fun W b=>by
      have b2:=zaa b;exact ⟨A0.over b2,A1.over b2,(b2.cell (p:=⟨gp,op+q,none⟩) hgp).trans kp,HD.out.below b2 nR⟩
     have HKP:=hide kp;clear hPn kp dR hcp hBD hF A0 A1;go_wp2_with fail
     refine Exists.elim (p:=fun QQ:Exit->Act->World->Prop=>∀ ex ac W,QQ ex ac W↔(ex=.normal/\∃ (z6:Value) (bw:Nat) (sa:Option Addr) (sc:Nat),ac=⟨List.toArray ((Value.agg #[dx,dy,Value.slice (some { block:=g,off:=off }) is.length c3,bv]) :: (Value.int IntKind.i64 (↑j+1)) :: (Value.string nm) :: (Value.pointer (some { block:=w.heap.size,off:=0 })) :: (undef) :: (undef) :: (u6) :: (u7) :: (u8) :: (Value.pointer (some { block:=w.heap.size+1,off:=0 })) :: (Value.int IntKind.i64 ↑q) :: (.pointer (some ⟨bw,0,none⟩)) :: (.bool F) :: (u13) :: (Value.int IntKind.i64 (↑j+1)) :: (Value.pointer (some { block:=w.heap.size,off:=2 })) :: (Value.slice (some { block:=g,off:=off }) is.length c3) :: (Value.int IntKind.i64 ↑is.length) :: (Value.bool true) :: (Value.bool false) :: (Value.bool false) :: (Value.pointer (some { block:=w.heap.size,off:=2 })) :: (Value.slice (some { block:=g,off:=off }) is.length c3) :: (Value.int IntKind.i64 (↑j+1)) :: (Value.int IntKind.i64 ↑j) :: (Value.pointer (some { block:=g,off:=off+j * 3 })) :: (Value.pointer (some { block:=g,off:=off+j * 3 })) :: (Value.int IntKind.i64 2) :: (Value.bool false) :: (Value.bool false) :: (Value.pointer (some { block:=w.heap.size,off:=2 })) :: (Value.slice (some { block:=g,off:=off }) is.length c3) :: (Value.int IntKind.i64 (↑j+1)) :: (Value.int IntKind.i64 ↑j) :: (Value.pointer (some { block:=g,off:=off+j * 3 })) :: (Value.agg #[Value.int IntKind.i64 2,Value.int IntKind.i64 ln,Value.slice (some { block:=gp,off:=op }) ps.length pc]) :: (Value.int IntKind.i64 ↑q) :: (Value.pointer (some { block:=w.heap.size+1,off:=2 })) :: (Value.slice (some { block:=gp,off:=op }) ps.length pc) :: (Value.int IntKind.i64 ↑ps.length) :: (Value.bool true) :: (u41) :: (u42) :: (z6) :: (.agg #[dx,dy,.slice (some ⟨g,off,none⟩) is.length c3,bv]) :: (.pointer (some ⟨w.heap.size+1,2,none⟩)) :: (.slice (some ⟨gp,op,none⟩) ps.length pc) :: (.int .i64 q) :: (.pointer (some ⟨gp,op+q,none⟩)) :: (.int .i64 Pn) :: (z6) :: (.agg #[.bool bd,.slice sa bss.length sc,.string btx]) :: (.bool F) :: (u53) :: (u54) :: (u55) :: (u56) :: (u57) :: (u58) :: (u59) :: (u60) :: (u61) :: (u62) :: (u63) :: (u64) :: (u65) :: (u66) :: (u67) :: (u68) :: (u69) :: (u70) :: (u71) :: (u72) :: (u73) :: (u74) :: (u75) :: (u76) :: []),[]⟩/\AtC W bw 74 #[.bool bd,.slice sa bss.length sc,.string btx]/\RSl wr (.slice sa bss.length sc) bss/\Below wr.heap.size wr W)) ⟨_,fun _ _ _=>Iff.rfl⟩ fun QQ hQQ=>?_;have HQQ:=hide hQQ;clear hQQ;refine Code.wp_mono (Q:=QQ) ?_ ?_
     rotate_left
     ·refine zad (by kernel_rfl) [0,1,2,3,4,5,6,7,8,9,10] [11,12] [([0,1,2,3,4,5,6,7,8,10],[[9,11,12],[11,9,12]])] (fun i=>match i with|0=>.const [] (.agg #[dx,dy,.slice (some ⟨g,off,none⟩) is.length c3,bv])|1=>.const [] (.pointer (some ⟨w.heap.size+1,2,none⟩))|2=>.const [1] (.slice (some ⟨gp,op,none⟩) ps.length pc)|3=>.const [] (.int .i64 q)|4=>.const [2,3] (.pointer (some ⟨gp,op+q,none⟩))|5=>.const [4] (.int .i64 Pn)|6=>MkBf 0 5 wr bd btx bss F|7=>MkBv 6 bd btx bss.length F|8=>MkBx 7|9=>.const [7] (.bool F)|10=>MkW 74 #[.bool false,.slice none 0 0,.string ⟨#[]⟩]|_=>.triv) (fun x=>⟨List.toArray ((.agg #[dx,dy,.slice (some ⟨g,off,none⟩) is.length c3,bv])::(.int .i64 (↑j+1))::(.string nm)::(.pointer (some ⟨w.heap.size,0,none⟩))::(undef)::(undef)::(u6)::(u7)::(u8)::(.pointer (some ⟨w.heap.size+1,0,none⟩))::(.int .i64 ↑q)::(x 10)::(u12)::(u13)::(.int .i64 (↑j+1))::(.pointer (some ⟨w.heap.size,2,none⟩))::(.slice (some ⟨g,off,none⟩) is.length c3)::(.int .i64 ↑is.length)::(.bool true)::(.bool false)::(.bool false)::(.pointer (some ⟨w.heap.size,2,none⟩))::(.slice (some ⟨g,off,none⟩) is.length c3)::(.int .i64 (↑j+1))::(.int .i64 ↑j)::(.pointer (some ⟨g,off+j * 3,none⟩))::(.pointer (some ⟨g,off+j * 3,none⟩))::(.int .i64 2)::(.bool false)::(.bool false)::(.pointer (some ⟨w.heap.size,2,none⟩))::(.slice (some ⟨g,off,none⟩) is.length c3)::(.int .i64 (↑j+1))::(.int .i64 ↑j)::(.pointer (some ⟨g,off+j * 3,none⟩))::(.agg #[.int .i64 2,.int .i64 ln,.slice (some ⟨gp,op,none⟩) ps.length pc])::(.int .i64 ↑q)::(.pointer (some ⟨w.heap.size+1,2,none⟩))::(.slice (some ⟨gp,op,none⟩) ps.length pc)::(.int .i64 ↑ps.length)::(.bool true)::(u41)::(u42)::(x 7)::(x 0)::(x 1)::(x 2)::(x 3)::(x 4)::(x 5)::(x 6)::(x 8)::(x 9)::(u53)::(u54)::(u55)::(u56)::(u57)::(u58)::(u59)::(u60)::(u61)::(u62)::(u63)::(u64)::(u65)::(u66)::(u67)::(u68)::(u69)::(u70)::(u71)::(u72)::(u73)::(u74)::(u75)::(u76)::[]),[]⟩) (fun i=>match i with|0=>u44|1=>u45|2=>u46|3=>u47|4=>u48|5=>u49|6=>u50|7=>u43|8=>u51|9=>u52|10=>u11|_=>undef) rfl (by kernel_rfl) (by kernel_rfl) (by kernel_rfl) (by kernel_rfl) rfl ?_ ?_ ?_
      ·intro jo hj so x iw W hd hp K hK;simp only [List.mem_cons,List.not_mem_nil,or_false] at hj;rcases hj with rfl|rfl|rfl|rfl|rfl|rfl|rfl|rfl|rfl|rfl|rfl<;>refine wpOp_step (o:=_) rfl fun K' hK'=>?_<;>have HK:=hide (fun (v:Value) (W':World) h1 h2=>hK' _ _ (hK v W' h1 h2))<;>simp only [upd,Nat.reduceEqDiff,if_true,if_false] at HK
       ·have k0:=(HC2.out W hp.bel).1;have y0:W.cell? ⟨w.heap.size,0,none⟩=some (dx):=k0.cell 0;have y1:W.cell? ⟨w.heap.size,1,none⟩=some (dy):=k0.cell 1;have y2:W.cell? ⟨w.heap.size,2,none⟩=some (.slice (some ⟨g,off,none⟩) is.length c3):=k0.cell 2;have y3:W.cell? ⟨w.heap.size,3,none⟩=some (bv):=k0.cell 3;clear k0;go_simp;exact HK.out _ _ bR rfl
       ·clear hK hK' hp hd;go_simp;exact HK.out _ _ bR rfl
       ·have e1:x 1=.pointer (some ⟨w.heap.size+1,2,none⟩):=hp.post 1 (hd 1 mz0);have y0:W.cell? ⟨w.heap.size+1,2,none⟩=some (.slice (some ⟨gp,op,none⟩) ps.length pc):=(HC2.out W hp.bel).2.1.cell 2;simp only [e1] at HK ⊢;go_simp;exact HK.out _ _ bR rfl
       ·clear hK hK' hp hd;go_simp;exact HK.out _ _ bR rfl
       ·have e2:x 2=.slice (some ⟨gp,op,none⟩) ps.length pc:=hp.post 2 (hd 2 mz0);have e3:x 3=.int .i64 q:=hp.post 3 (hd 3 mz1);simp only [e2,e3] at HK ⊢;go_simp;exact HK.out _ _ bR rfl
       ·have e4:x 4=.pointer (some ⟨gp,op+q,none⟩):=hp.post 4 (hd 4 mz0);have y0:W.cell? ⟨gp,op+q,none⟩=some (.int .i64 Pn):=(HC2.out W hp.bel).2.2.1;simp only [e4] at HK ⊢;go_simp;exact HK.out _ _ bR rfl
       ·have e0:x 0=.agg #[dx,dy,.slice (some ⟨g,off,none⟩) is.length c3,bv]:=hp.post 0 (hd 0 mz0);have e5:x 5=.int .i64 Pn:=hp.post 5 (hd 5 mz1);have dr:=zaa hp.bel;simp only [e0,e5] at HK ⊢;clear e0 e5;go_simp;refine (CB.out W dr).mono ?_;rintro e w6 ⟨sv,rfl,R6,B6⟩;obtain ⟨sa,sc,rfl,hR6⟩:=R6;go_simp;exact HK.out _ _ B6 ⟨sa,sc,rfl,sa,sc,rfl,hR6⟩
       ·have e6:∃ a c,x 6=.tuple #[.agg #[.bool bd,.slice a bss.length c,.string btx],.bool F]/\RSl wr (.slice a bss.length c) bss:=hp.post 6 (hd 6 mz0);obtain ⟨sa,sc,e6,-⟩:=e6;have e6a:=hide e6;simp only [e6] at HK ⊢;clear e6;go_simp;exact HK.out _ _ bR ⟨e6a.out,sa,sc,rfl⟩
       ·have e7:x 6=x 7/\∃ a c,x 7=.tuple #[.agg #[.bool bd,.slice a bss.length c,.string btx],.bool F]:=hp.post 7 (hd 7 mz0);obtain ⟨-,sa,sc,e7⟩:=e7;have e7a:Hid (.agg #[.bool bd,.slice sa bss.length sc,.string btx]=fstOf (x 7)):=by rw [e7];rfl
        simp only [e7] at HK ⊢;clear e7;go_simp;exact HK.out _ _ bR e7a.out
       ·have e7:x 6=x 7/\∃ a c,x 7=.tuple #[.agg #[.bool bd,.slice a bss.length c,.string btx],.bool F]:=hp.post 7 (hd 7 mz0);obtain ⟨-,sa,sc,e7⟩:=e7;simp only [e7] at HK ⊢;clear e7;go_simp;exact HK.out _ _ bR rfl
       ·clear hK hK' hp hd;go_simp;exact HK.out _ _ ((Below.refl _ W).alloc nR _) ⟨rfl,by simp,AtC.new W 74 _⟩
      ·intro x iw W hp;obtain ⟨e7,-⟩:=hp.post 7 (by decide);obtain ⟨sa,sc,e6,R6⟩:=hp.post 6 (by decide);have e8:x 8=fstOf (x 7):=hp.post 8 (by decide);obtain ⟨e10,z10,A10⟩:=hp.post 10 (by decide);have l10:=hp.lo 10 (by decide);have bel:=zaa hp.bel;rw [← e7,e6] at e8;rw [e6] at e7
       replace e8:x 8=.agg #[.bool bd,.slice sa bss.length sc,.string btx]:=e8
       have e9:x 9=.bool F:=hp.post 9 (by decide);have e0:x 0=.agg #[dx,dy,.slice (some ⟨g,off,none⟩) is.length c3,bv]:=hp.post 0 (by decide);have e1:x 1=.pointer (some ⟨w.heap.size+1,2,none⟩):=hp.post 1 (by decide);have e2:x 2=.slice (some ⟨gp,op,none⟩) ps.length pc:=hp.post 2 (by decide);have e3:x 3=.int .i64 q:=hp.post 3 (by decide);have e4:x 4=.pointer (some ⟨gp,op+q,none⟩):=hp.post 4 (by decide);have e5:x 5=.int .i64 Pn:=hp.post 5 (by decide);have y0:W.cell? ⟨(iw 10).1,0,none⟩=some (.bool false):=A10.cell 0;have f0:=A10.frozen 0;have y1:W.cell? ⟨(iw 10).1,1,none⟩=some (.slice none 0 0):=A10.cell 1;have f1:=A10.frozen 1;have y2:W.cell? ⟨(iw 10).1,2,none⟩=some (.string ⟨#[]⟩):=A10.cell 2;have f2:=A10.frozen 2;have hb10:wr.heap.size<=(iw 10).1:=l10.1;have HM:Hid (AtC (((W.setCell ⟨(iw 10).1,0,none⟩ (.bool bd)).setCell ⟨(iw 10).1,1,none⟩ (.slice sa bss.length sc)).setCell ⟨(iw 10).1,2,none⟩ (.string btx)) (iw 10).1 74 #[.bool bd,.slice sa bss.length sc,.string btx]/\RSl wr (.slice sa bss.length sc) bss/\Below wr.heap.size wr (((W.setCell ⟨(iw 10).1,0,none⟩ (.bool bd)).setCell ⟨(iw 10).1,1,none⟩ (.slice sa bss.length sc)).setCell ⟨(iw 10).1,2,none⟩ (.string btx))):=by
        have s0:AtC (W.setCell ⟨(iw 10).1,0,none⟩ (.bool bd)) (iw 10).1 74 #[.bool bd,.slice none 0 0,.string ⟨#[]⟩]:=A10.set 0 _;have s1:AtC ((W.setCell ⟨(iw 10).1,0,none⟩ (.bool bd)).setCell ⟨(iw 10).1,1,none⟩ (.slice sa bss.length sc)) (iw 10).1 74 #[.bool bd,.slice sa bss.length sc,.string ⟨#[]⟩]:=s0.set 1 _;exact ⟨s1.set 2 _,R6,((bel.setCell hb10 _).setCell hb10 _).setCell hb10 _⟩
       clear hp l10 A10 bel hb10 z10;generalize (iw 10).1=bw at *;simp only [e0,e1,e2,e3,e4,e5,e6,← e7,e8,e9,e10];clear e0 e1 e2 e3 e4 e5 e6 e7 e8 e9 e10;refine line2 rfl rfl ?_;go_wp2;exact (HQQ.out _ _ _).2 ⟨rfl,_,bw,sa,sc,rfl,HM.out.1,HM.out.2.1,HM.out.2.2⟩
      ·intro qa hqa l hl x iw W hp;simp only [List.mem_cons,List.not_mem_nil,or_false] at hqa;subst hqa;simp only [List.mem_cons,List.not_mem_nil,or_false] at hl;obtain ⟨e7,-⟩:=hp.post 7 (by decide);obtain ⟨sa,sc,e6,R6⟩:=hp.post 6 (by decide);have e8:x 8=fstOf (x 7):=hp.post 8 (by decide);obtain ⟨e10,z10,A10⟩:=hp.post 10 (by decide);have l10:=hp.lo 10 (by decide);have bel:=zaa hp.bel;rw [← e7,e6] at e8;rw [e6] at e7
       replace e8:x 8=.agg #[.bool bd,.slice sa bss.length sc,.string btx]:=e8
       have e0:x 0=.agg #[dx,dy,.slice (some ⟨g,off,none⟩) is.length c3,bv]:=hp.post 0 (by decide);have e1:x 1=.pointer (some ⟨w.heap.size+1,2,none⟩):=hp.post 1 (by decide);have e2:x 2=.slice (some ⟨gp,op,none⟩) ps.length pc:=hp.post 2 (by decide);have e3:x 3=.int .i64 q:=hp.post 3 (by decide);have e4:x 4=.pointer (some ⟨gp,op+q,none⟩):=hp.post 4 (by decide);have e5:x 5=.int .i64 Pn:=hp.post 5 (by decide);have y0:W.cell? ⟨(iw 10).1,0,none⟩=some (.bool false):=A10.cell 0;have f0:=A10.frozen 0;have y1:W.cell? ⟨(iw 10).1,1,none⟩=some (.slice none 0 0):=A10.cell 1;have f1:=A10.frozen 1;have y2:W.cell? ⟨(iw 10).1,2,none⟩=some (.string ⟨#[]⟩):=A10.cell 2;have f2:=A10.frozen 2;have hb10:wr.heap.size<=(iw 10).1:=l10.1;have HM:Hid (AtC (((W.setCell ⟨(iw 10).1,0,none⟩ (.bool bd)).setCell ⟨(iw 10).1,1,none⟩ (.slice sa bss.length sc)).setCell ⟨(iw 10).1,2,none⟩ (.string btx)) (iw 10).1 74 #[.bool bd,.slice sa bss.length sc,.string btx]/\RSl wr (.slice sa bss.length sc) bss/\Below wr.heap.size wr (((W.setCell ⟨(iw 10).1,0,none⟩ (.bool bd)).setCell ⟨(iw 10).1,1,none⟩ (.slice sa bss.length sc)).setCell ⟨(iw 10).1,2,none⟩ (.string btx))):=by
        have s0:AtC (W.setCell ⟨(iw 10).1,0,none⟩ (.bool bd)) (iw 10).1 74 #[.bool bd,.slice none 0 0,.string ⟨#[]⟩]:=A10.set 0 _;have s1:AtC ((W.setCell ⟨(iw 10).1,0,none⟩ (.bool bd)).setCell ⟨(iw 10).1,1,none⟩ (.slice sa bss.length sc)) (iw 10).1 74 #[.bool bd,.slice sa bss.length sc,.string ⟨#[]⟩]:=s0.set 1 _;exact ⟨s1.set 2 _,R6,((bel.setCell hb10 _).setCell hb10 _).setCell hb10 _⟩
       clear hp l10 A10 bel hb10 z10;generalize (iw 10).1=bw at *;simp only [e0,e1,e2,e3,e4,e5,e6,← e7,e8,e10];clear e0 e1 e2 e3 e4 e5 e6 e7 e8 e10;rcases hl with rfl | rfl
       ·refine line3 rfl rfl rfl ?_;go_wp2;exact (HQQ.out _ _ _).2 ⟨rfl,_,bw,sa,sc,rfl,HM.out.1,HM.out.2.1,HM.out.2.2⟩
       ·refine line3 rfl rfl rfl ?_;go_wp2;exact (HQQ.out _ _ _).2 ⟨rfl,_,bw,sa,sc,rfl,HM.out.1,HM.out.2.1,HM.out.2.2⟩
     intro ex ac W3 hq3;obtain ⟨rfl,z6,bw,sa,sc,rfl,A3,R3,B3⟩:=(HQQ.out _ _ _).1 hq3;clear hq3 HQQ;have HN:Hid (∀ W,Below W3.heap.size W3 W->AtC W bw 74 #[.bool bd,.slice sa bss.length sc,.string btx]/\RSl W (.slice sa bss.length sc) bss/\W.cell? ⟨w.heap.size+1,2,none⟩=some (.slice (some ⟨gp,op,none⟩) ps.length pc)/\W.cell? ⟨gp,op+q,none⟩=some (.int .i64 Pn)/\Below w.heap.size w W/\Below ((w.alloc (.cells #[dx,dy,.slice (some ⟨g,off,none⟩) is.length c3,bv] 35)).alloc (.cells #[.int .i64 2,.int .i64 ln,.slice (some ⟨gp,op,none⟩) ps.length pc] 63)).heap.size ((w.alloc (.cells #[dx,dy,.slice (some ⟨g,off,none⟩) is.length c3,bv] 35)).alloc (.cells #[.int .i64 2,.int .i64 ln,.slice (some ⟨gp,op,none⟩) ps.length pc] 63)) W):=fun W b=>by
      have b2:=B3.trans (b.mono B3.size);have b3:=HQ.out.trans (b2.mono HQ.out.size);obtain ⟨-,k2,k3,-⟩:=HW.out W b3;exact ⟨A3.over b,R3.below b2 nR,k2.cell 2,(b2.cell (p:=⟨gp,op+q,none⟩) hgp).trans HKP.out,k3,b3⟩
     obtain ⟨d1,d2,-⟩:=HN.out _ bR;have g0:W3.cell? ⟨bw,0,none⟩=some (.bool bd):=d1.cell 0;have g1:W3.cell? ⟨bw,1,none⟩=some (.slice sa bss.length sc):=d1.cell 1;have g2:W3.cell? ⟨bw,2,none⟩=some (.string btx):=d1.cell 2;have HD2:=hide d2;clear d1 d2 A3 R3 B3 y2 CB HC2;go_wp2_with fail
     refine (slot_any bd _ bss btx nm W3 HD2.out hbn).mono ?_;rintro e w4 ⟨k,rfl,SL,B4⟩;obtain ⟨d1,d2,d3,d4,d5,d6⟩:=HN.out w4 B4;have g0:w4.cell? ⟨bw,0,none⟩=some (.bool bd):=d1.cell 0;have g1:w4.cell? ⟨bw,1,none⟩=some (.slice sa bss.length sc):=d1.cell 1;have HE:=hide (And.intro d5 d6);clear d1 d5 d6 HN B4 HD2 HQ;have HTK:=hide (zfj (bs:=bs) hlt);have HSPL:=hide (zlw (bs:=bs) hlt);rw [HPN.out,HBD.out] at HTK HSPL
     cases F with
     | false =>
      have HN2:Hid (∀ s∈nmdP bs (ps.take (q+1)),¬ s.1=nm):=by
       have hb0:=zg8 HFF.out;rw [HBD.out] at hb0;show ∀ s∈nmdP bs (ps.take (q+1)),¬ s.1=nm;rw [HTK.out,show nmd (bd,bss,btx)=[] from by simp only [Prod.mk.injEq] at hb0;rw [hb0.1];rfl,List.append_nil];exact HNO.out
      go_wp2;go_roundw
      case rel=>exact ⟨q+1,by omega,by go_num,HN2.out,HE.out.2⟩
      case measure=>simp [intOf];omega
     | true =>
      cases bd with
      | false =>
       have HN2:Hid (∀ s∈nmdP bs (ps.take (q+1)),¬ s.1=nm):=by
        show ∀ s∈nmdP bs (ps.take (q+1)),¬ s.1=nm;rw [HTK.out,show nmd (false,bss,btx)=[] from rfl,List.append_nil];exact HNO.out
       go_wp2;go_roundw
       case rel=>exact ⟨q+1,by omega,by go_num,HN2.out,HE.out.2⟩
       case measure=>simp [intOf];omega
      | true =>
       rcases SL with ⟨rfl,hno⟩ | ⟨jj,hjj,rfl,hnm,hsz,hfirst⟩
       ·have HN2:Hid (∀ s∈nmdP bs (ps.take (q+1)),¬ s.1=nm):=by
         show ∀ s∈nmdP bs (ps.take (q+1)),¬ s.1=nm;rw [HTK.out,show nmd (true,bss,btx)=nmdS bss from rfl];intro s hs;rcases List.mem_append.1 hs with h | h
         ·exact HNO.out s h
         ·exact zm8 (hno HNE.out) s h
        clear hno;go_wp2;go_roundw
        case rel=>exact ⟨q+1,by omega,by go_num,HN2.out,HE.out.2⟩
        case measure=>simp [intOf];omega
       ·obtain ⟨sa',sc',e1,-,hcs⟩:=d2;simp only [Value.slice.injEq,true_and] at e1;obtain ⟨rfl,rfl⟩:=e1;obtain ⟨gs,os,rfl,-,-,ks⟩:=hcs jj hjj;have HFI:Hid (bss[jj].2=RES):=by
         show bss[jj].2=RES;rw [← HRES.out,HSPL.out,zc0 HNO.out,show nmd (true,bss,btx)=nmdS bss from rfl];exact (zj4 hjj hnm hsz hfirst).symm
        clear hfirst;generalize bss[jj].2=ino at *;have t0:(0:Int)<=(jj:Int):=by omega
        have t1:(jj:Int) < (bss.length:Int):=by omega
        clear hcs hnm hsz;go_wp2;go_quiet (fail)
        go_wp2
        go_ret3
        exact ⟨_,_,by rw [HFI.out];rfl,below_drewN HE.out.1 _⟩
    ·have HF:=hide (HW.out wr HQ.out).2.2.1;have HNF:Hid (findI (nmdP bs ps) nm=0):=by
      have:=HNO.out;rw [List.take_of_length_le (by omega)] at this;exact zlv this
     clear HQ;go_wp2
     go_ret3
     exact ⟨0,0,by rw [← HRES.out,HNF.out];rfl,HF.out⟩
  ·have hk2:decide (kd=2)=false:=decide_eq_false hk;have HR0:Hid (RES=0):=by have:=HRES0.out;rw [if_neg hk] at this;exact this.symm
   clear HRES0;go_wp2
   go_ret3
   exact ⟨0,0,by rw [HR0.out];rfl,HB.out⟩
namespace Kit
def sndOf:Value->Value
 | .tuple xs=>xs.getD 1 undef
 | u=>u
def MkT2 (ds:List Nat) (R:Nat->Nat->World->Value->Value->Prop) (hst:∀ lo hi w w' a r,R lo hi w a r->Below w.heap.size w w'->R lo hi w' a r):Mk:=.val ds (fun lo hi w v=>∃ a r,v=.tuple #[a,r]/\R lo hi w a r)
 (fun lo hi w w' _ h hb=>by obtain ⟨a,r,h1,h2⟩:=h;exact ⟨a,r,h1,hst lo hi w w' a r h2 hb⟩)
def MkMv (k:Nat):Mk:=.val1 [k] k (by simp) (fun _ _ _ u v=>u=v/\∃ a r,v=.tuple #[a,r]) (fun _ _ _ _ _ _ h _=>h)
def MkFs (k:Nat):Mk:=.val1 [k] k (by simp) (fun _ _ _ u v=>v=fstOf u) (fun _ _ _ _ _ _ h _=>h)
def MkSd (k:Nat):Mk:=.val1 [k] k (by simp) (fun _ _ _ u v=>v=sndOf u) (fun _ _ _ _ _ _ h _=>h)
end Kit
namespace Kit
def needs (md:Region.Mode) (ops:Array Oper) (t:List Nat) (x:Nat):Bool:=t.any fun i=>match ops[i]? with | some o=>o.after.any fun e=>Region.binds md e && e.on == x | none=>false
def zgf (md:Region.Mode) (ops:Array Oper):List Nat->List (List Nat)
 | []=>[[]]
 | x :: r=>(zgf md ops r).filter (fun t=>!needs md ops t x) ++ (zgf md ops r).map fun t=>x :: t
theorem zhb:∀ (js t:List Nat),t∈subs js->∀ i∈t,i∈js
 | [],t,h,i,hi=>by simp [subs] at h;subst h;simp at hi
 | x :: r,t,h,i,hi=>by
  rw [subs,List.mem_append] at h;rcases h with h | h
  ·exact List.mem_cons_of_mem _ (zhb r t h i hi)
  ·obtain ⟨t',h',rfl⟩:=List.mem_map.mp h;rcases List.mem_cons.mp hi with rfl | hi
   ·exact List.mem_cons_self
   ·exact List.mem_cons_of_mem _ (zhb r t' h' i hi)
theorem zed (md:Region.Mode)(ops:Array Oper):∀ (js:List Nat),js.Nodup->∀ t∈subs js,(∀ i∈t,∀ o,ops[i]?=some o->∀ e∈o.after,Region.binds md e=true->e.on∈js->e.on∈t)->t∈zgf md ops js
 | [],_,t,ht,_=>by simpa [subs,zgf] using ht
 | x :: r,hn,t,ht,hc=>by
  obtain ⟨hx,hr⟩:=List.nodup_cons.mp hn;rw [subs,List.mem_append] at ht;rw [zgf,List.mem_append];rcases ht with ht | ht
  ·left
   refine List.mem_filter.mpr ⟨zed md ops r hr t ht fun i hi o ho e he hb hj=>hc i hi o ho e he hb (List.mem_cons_of_mem _ hj),?_⟩;have hxt:x ∉ t:=fun e=>hx (zhb r t ht x e);simp only [Bool.not_eq_true',needs,List.any_eq_false];intro i hi
   cases ho:ops[i]? with
   | none=>simp
   | some o =>
    intro hh;obtain ⟨k,hk,hh⟩:=Array.any_eq_true.mp hh;simp only [Bool.and_eq_true,beq_iff_eq] at hh;obtain ⟨hb,he⟩:=hh;exact hxt (he ▸ hc i hi o ho o.after[k] (Array.getElem_mem hk) hb (by rw [he];exact List.mem_cons_self))
  ·right
   obtain ⟨t',h',rfl⟩:=List.mem_map.mp ht;refine List.mem_map.mpr ⟨t',zed md ops r hr t' h' fun i hi o ho e he hb hj=>?_,rfl⟩;rcases List.mem_cons.mp (hc i (List.mem_cons_of_mem _ hi) o ho e he hb (List.mem_cons_of_mem _ hj)) with q | q
   ·exact absurd (q ▸ hj) hx
   ·exact q
def zna (md:Region.Mode) (ops:Array Oper) (js:List Nat) (exits:List (List Nat)):Bool :=
 (zgf md ops js).all fun t=>t == js || exits.contains t || !zec md ops t || (!(Region.ready md ops (mask ops.size t)).isEmpty && (Region.ready md ops (mask ops.size t)).all fun i=>js.contains i && !t.contains i)
theorem zae {md:Region.Mode}{ops:Array Oper}{js:List Nat}{exits:List (List Nat)}(hn:decide js.Nodup=true)(h:zna md ops js exits=true):zdt md ops js exits=true:=by
 unfold zdt;refine List.all_eq_true.mpr fun t ht=>?_;by_cases hc:zec md ops t=true
 ·refine List.all_eq_true.mp h t (zed md ops js (of_decide_eq_true hn) t ht fun i hi o ho e he hb _=>?_);have:=List.all_eq_true.mp hc i hi;rw [ho] at this;obtain ⟨k,hk,rfl⟩:=Array.mem_iff_getElem.mp he;have:=Array.all_eq_true.mp this k hk;rw [hb] at this;simpa using this
 ·simp [hc]
end Kit
namespace Kit
def stc (l:List ByteArray):List Value:=l.map fun z=>Value.string z
theorem zci (l:List ByteArray):(stc l).length=l.length:=by simp [stc]
theorem zgg (a b:List ByteArray):stc (a ++ b)=stc a ++ stc b:=by simp [stc]
theorem zal {P:Program}(W:World){ops:Array Oper}{o:Oper}{a:Act}{K:Act->World->Prop}{Q:Exit->Act->World->Prop}{E:Prop}(hgd:o.guard=none)(s x:Operand)(t:TypeId)
  (ho:o.op=.call { callee:=.builtin .append,args:=#[s,x],argTypes:=#[t,t] }) (base:Nat) (e:TypeId) (ht:P.underlying t=some (.slice e)) (z:Value) (bytes:Nat)
  (hi:(P.info? e).map (fun i=>(i.zero,i.size,i.bytes))=some (some z,1,bytes)) (hzc:z.cells.size=1) (hby:bytes<=640) (v:Value) (l:List Value) (hs:a.eval s=v) (hown:ROwns W base e v l) (hbase:base<=W.heap.size)
  (g:Nat) (y:Value) (hx:a.eval x=.slice (some ⟨g,0,none⟩) 1 1) (hc:W.cell? ⟨g,0,none⟩=some y) (h1:y.oneCell'=true) (hl:l.length<=100000000000)
  (h:∀ v' w',ROwns w' base e v' (l ++ [y])->W.grownBy w' v.ownBlock->(∀ k,v'.ownBlock=some k->v.ownBlock=some k\/W.heap.size<=k)->K (a.put o.dst v') w') :
  if Region.wanted o (yielded ops a.tmps)=true then Oper.wp P o a W K Q else E:=by
 obtain ⟨i0,hi,hz0,hz1,hz2⟩:=info_parts hi;refine step_append_lies _ hgd s x t ho base e i0 z 1 bytes ht hi hz0 hz1 hz2 hzc (by decide) v l.length l hs hown ⟨g,0,none⟩ 1 1 [y] hx rfl ?_ (by simpa using h1) (by decide) ?_ ?_ hbase W.heap.size rfl ?_
 ·intro j u hj
  cases j with
  | zero=>simp only [List.getElem?_cons_zero,Option.some.injEq] at hj;subst hj;simpa [Addr.add] using hc
  | succ j=>simp at hj
 ·unfold maxLen;omega
 ·have:(l.length+1) * bytes<=100000000001 * 640:=Nat.mul_le_mul (by omega) hby;omega
 ·intro g' cap w' hown' hgrow hat _;refine h _ w' ?_ hgrow fun k hk=>?_
  ·unfold ROwns;rw [List.length_append];exact hown'
  ·simp only [Value.ownBlock,Option.some.injEq] at hk;subst hk;rcases hat with hat | hat
   ·exact .inl hat
   ·exact .inr (by omega)
def BlkR (w0:World) (bd:Bool) (btx:ByteArray) (bss:List Sl) (F:Bool) (_ _:Nat) (_:World) (a r:Value):Prop:=∃ (sa:Option Addr) (sc:Nat),a=.agg #[.bool bd,.slice sa bss.length sc,.string btx]/\r=.bool F/\RSl w0 (.slice sa bss.length sc) bss
theorem BlkR.below {w0:World}{bd:Bool}{btx:ByteArray}{bss:List Sl}{F:Bool}(lo hi:Nat)(w w':World)(a r:Value)(h:BlkR w0 bd btx bss F lo hi w a r)(_:Below w.heap.size w w'):BlkR w0 bd btx bss F lo hi w' a r:=h
theorem zc2 {a:ByteArray}(h:¬ a=⟨#[]⟩):(a.toList == ([]:List UInt8))=false:=by
 have:=zay (b:=⟨#[]⟩) h
 rwa [show (⟨#[]⟩:ByteArray).toList=[] from by rw [ByteArray.toList_eq]] at this
theorem ze1 {bs:List Blk}{x:Int}(h:inB x 1 bs.length=true):∃ (jb:Nat) (hb:jb < bs.length),x=(jb:Int)+1/\blkAt bs x=bs[jb]:=by
 obtain ⟨h1,h2⟩:=zao h;refine ⟨(x - 1).toNat,by omega,by omega,?_⟩;unfold blkAt;rw [h,if_pos rfl];rw [List.getD_eq_getElem?_getD,List.getElem?_eq_getElem (show (x - 1).toNat < bs.length by omega)];rfl
end Kit
namespace Kit
structure NmR (w wr:World) (D X:Array Value) (bw:Nat) (lv:Value) (l:List ByteArray):Prop where
 o:ROwns wr (w.heap.size+1) 9 lv (stc l)
 n:∀ k,lv.ownBlock=some k->k≠w.heap.size+1+1/\k≠bw
 b:Below w.heap.size w wr
 d:AtC wr w.heap.size 35 D
 x:AtC wr (w.heap.size+1+1) 63 X
theorem NmR.below {w wr wr':World}{D X:Array Value}{bw:Nat}{lv:Value}{l:List ByteArray}(h:NmR w wr D X bw lv l)(hb:Below wr.heap.size wr wr'):NmR w wr' D X bw lv l :=
 ⟨h.o.below hb nR,h.n,h.b.trans (hb.mono h.b.size),h.d.over hb,h.x.over hb⟩
theorem NmR.app {w wr wr':World}{D X:Array Value}{bw:Nat}{lv lv':Value}{l l':List ByteArray}(h:NmR w wr D X bw lv l)(ho:ROwns wr' (w.heap.size+1) 9 lv' (stc l'))(hg:wr.grownBy wr' lv.ownBlock)(hv:∀ k,lv'.ownBlock=some k->lv.ownBlock=some k\/wr.heap.size<=k)(hbw:bw < wr.heap.size):NmR w wr' D X bw lv' l' :=
 ⟨ho,fun k hk=>(hv k hk).elim (h.n k) (fun e=>by have:=h.x.lt;omega),h.b.grown hg h.b.size (fun k hk=>by have:=(h.o.lt k hk).1;omega),h.d.grown hg (fun e=>by have:=(h.o.lt _ e).1;omega),h.x.grown hg (fun e=>(h.n _ e).1 rfl)⟩
theorem NmR.turn {w wr:World}{D X:Array Value}{bw bw':Nat}{lv:Value}{l:List ByteArray}(h:NmR w wr D X bw lv l)(hb:∀ k,lv.ownBlock=some k->k≠bw'):NmR w wr D X bw' lv l:=⟨h.o,fun k hk=>⟨(h.n k hk).1,hb k hk⟩,h.b,h.d,h.x⟩
theorem zj5 {bs:List Blk}(hk:∀ q∈bs,q.2.1.length<=4)(x:Int):(blkAt bs x).2.1.length<=4:=by
 cases h:inB x 1 bs.length with
 | false=>unfold blkAt;rw [h];simp
 | true =>
  obtain ⟨jb,hb,-,e⟩:=ze1 h;rw [e];exact hk _ (List.getElem_mem hb)
end Kit
theorem Tryz.w96:Tryz.prog.underlying 96=some (.slice 9):=by kernel_rfl
theorem Tryz.w9:(Tryz.prog.info? 9).map (fun i=>(i.zero,i.size,i.bytes))=some (some (.string ByteArray.empty),1,16):=by kernel_rfl
theorem znb (x:Int)(dx dy iv bv:Value)(xs ys:List Bool)(is:List Ino)(bs:List Blk)(w:World)(h:DR w dx dy iv bv xs ys is bs)(hi:is.length=8)(hbl:bs.length<=1048576)(hp:∀ q∈is,q.2.2.length<=2)(hk:∀ q∈bs,q.2.1.length<=4) :
  Calls Tryz.prog 78 #[.agg #[dx,dy,iv,bv],.int .i64 x] w fun e w'=>∃ lv,e=.returned lv/\ROwns w' w.heap.size 9 lv (stc ((named is bs x).map (·.1)))/\Below w.heap.size w w':=by
 obtain ⟨a1,c1,a2,c2,a3,c3,a4,c4,rfl,rfl,rfl,rfl⟩:=h.form;have HH:=hide h;have HW:Hid (∀ W,Below ((w.alloc (.cells #[.slice a1 xs.length c1,.slice a2 ys.length c2,.slice a3 is.length c3,.slice a4 bs.length c4] 35)).alloc (.cells #[] 9)).heap.size ((w.alloc (.cells #[.slice a1 xs.length c1,.slice a2 ys.length c2,.slice a3 is.length c3,.slice a4 bs.length c4] 35)).alloc (.cells #[] 9)) W->Below w.heap.size w W/\AtC W w.heap.size 35 #[.slice a1 xs.length c1,.slice a2 ys.length c2,.slice a3 is.length c3,.slice a4 bs.length c4]/\w.heap.size+1+1<=W.heap.size):=fun W bb=>by
  have k1:=((AtC.new w 35 #[.slice a1 xs.length c1,.slice a2 ys.length c2,.slice a3 is.length c3,.slice a4 bs.length c4]).over ((Below.refl _ (w.alloc (.cells #[.slice a1 xs.length c1,.slice a2 ys.length c2,.slice a3 is.length c3,.slice a4 bs.length c4] 35))).alloc nR (.cells #[] 9))).over bb;have sz:=bb.size;simp at sz;exact ⟨(((Below.refl _ w).alloc nR _).alloc (by simp) _).trans (bb.mono (by simp;omega)),k1,sz⟩
 have HL0:Hid (ROwns ((w.alloc (.cells #[.slice a1 xs.length c1,.slice a2 ys.length c2,.slice a3 is.length c3,.slice a4 bs.length c4] 35)).alloc (.cells #[] 9)) w.heap.size 9 (.slice (some ⟨w.heap.size+1,0,none⟩) 0 0) (stc [])):=by
  have l0:=ROwns.lit0 (w.alloc (.cells #[.slice a1 xs.length c1,.slice a2 ys.length c2,.slice a3 is.length c3,.slice a4 bs.length c4] 35)) w.heap.size 9 (by simp);have e0:(w.alloc (.cells #[.slice a1 xs.length c1,.slice a2 ys.length c2,.slice a3 is.length c3,.slice a4 bs.length c4] 35)).heap.size=w.heap.size+1:=by simp
  rw [e0] at l0;exact l0
 have x2:((w.alloc (.cells #[.slice a1 xs.length c1,.slice a2 ys.length c2,.slice a3 is.length c3,.slice a4 bs.length c4] 35)).alloc (.cells #[] 9)).cell? ⟨w.heap.size,2,none⟩=some (.slice a3 is.length c3):=(HW.out _ bR).2.1.cell 2;have HBL:=hide hbl;have HKK:=hide hk
 cases hin:inB x 1 is.length with
 | false =>
  have HIN:=hide hin;have e0:named is bs x=[]:=by unfold named;rw [zaz hin];rfl
  rw [e0];clear e0;clear hin h hi hp hk hbl;go_enter Tryz.func78,Tryz.ntmps78
  go_wp2_with (go_at_call 80;refine (zam x 1 _ _).mono ?_;rintro e w7 ⟨rfl,rfl⟩;rw [HIN.out])
  go_ret;exact ⟨_,rfl,HL0.out,(HW.out _ bR).1⟩
 | true =>
  have HIN:=hide hin;obtain ⟨h1,h2⟩:=zao hin;obtain ⟨j,rfl⟩:∃ j:Nat,x=(j:Int)+1:=⟨(x - 1).toNat,by omega⟩
  have hj:j < is.length:=by omega
  have hj8:j < 8:=by omega
  have hnm:named is bs ((j:Int)+1)=if is[j].1=2 then nmdP bs is[j].2.2 else []:=by unfold named;rw [(zai hj).1,(zai hj).2]
  rw [hnm];clear hnm;have hwj:IntKind.i64.wrap (j:Int)=(j:Int):=wrap_small _ (by omega) (by omega);obtain ⟨qa,qc,qe,-,qh⟩:=h.i;simp only [Value.slice.injEq,true_and] at qe;obtain ⟨rfl,rfl⟩:=qe;obtain ⟨g2,o2,⟨t0,t1,t2⟩,rfl,hg2,r0,r1,r2,e0,e1,rr⟩:=qh j hj;have hpl:=hp _ (List.getElem_mem hj);obtain ⟨⟨kd,ln,ps⟩,hX⟩:∃ X,is[j]=X:=⟨_,rfl⟩
  rw [hX] at e0 e1 rr hpl ⊢;simp only at e0 e1 rr r0 r1 r2 hpl;subst e0 e1;obtain ⟨sa,sc,rfl⟩:=rr.form;have HRR:=hide rr;have HIH:=hide h;have bW:=(HW.out _ bR).1;have y0:=(bW.cell (p:=⟨g2,o2+j * 3,none⟩) hg2).trans r0;have y1:=(bW.cell (p:=⟨g2,o2+j * 3+1,none⟩) hg2).trans r1;have y2:=(bW.cell (p:=⟨g2,o2+j * 3+2,none⟩) hg2).trans r2;have j0:(0:Int)<=(j:Int):=by omega
  have j1:(j:Int) < (is.length:Int):=by omega
  clear qh hX rr bW r0 r1 r2 hin h1 h2 hp hk hbl h hi;by_cases hkd:kd=2
  rotate_left
  ·have hkb:(kd != 2)=true:=by simp [hkd]
   rw [if_neg hkd];go_enter Tryz.func78,Tryz.ntmps78
   go_wp2_with (go_at_call 80;refine (zam ((j:Int)+1) 1 _ _).mono ?_;rintro e w7 ⟨rfl,rfl⟩;rw [HIN.out])
   go_ret;exact ⟨_,rfl,HL0.out,(HW.out _ bR).1⟩
  subst hkd;rw [if_pos rfl];obtain ⟨RES,hRES⟩:∃ r,(nmdP bs ps).map (·.1)=r:=⟨_,rfl⟩
  rw [hRES];have HRES:=hide hRES;clear hRES;obtain ⟨W1,hW1⟩:∃ W1,(((w.alloc (.cells #[.slice a1 xs.length c1,.slice a2 ys.length c2,.slice (some ⟨g2,o2,none⟩) is.length c3,.slice a4 bs.length c4] 35)).alloc (.cells #[] 9)).alloc (.cells #[.int .i64 2,.int .i64 ln,.slice sa ps.length sc] 63))=W1:=⟨_,rfl⟩
  have HB1:Hid (AtC W1 (w.heap.size+1+1) 63 #[.int .i64 2,.int .i64 ln,.slice sa ps.length sc]/\Below ((w.alloc (.cells #[.slice a1 xs.length c1,.slice a2 ys.length c2,.slice (some ⟨g2,o2,none⟩) is.length c3,.slice a4 bs.length c4] 35)).alloc (.cells #[] 9)).heap.size ((w.alloc (.cells #[.slice a1 xs.length c1,.slice a2 ys.length c2,.slice (some ⟨g2,o2,none⟩) is.length c3,.slice a4 bs.length c4] 35)).alloc (.cells #[] 9)) W1):=by
   rw [← hW1];refine ⟨?_,bR.alloc nR _⟩;have k:=AtC.new ((w.alloc (.cells #[.slice a1 xs.length c1,.slice a2 ys.length c2,.slice (some ⟨g2,o2,none⟩) is.length c3,.slice a4 bs.length c4] 35)).alloc (.cells #[] 9)) 63 #[.int .i64 2,.int .i64 ln,.slice sa ps.length sc];have e0:((w.alloc (.cells #[.slice a1 xs.length c1,.slice a2 ys.length c2,.slice (some ⟨g2,o2,none⟩) is.length c3,.slice a4 bs.length c4] 35)).alloc (.cells #[] 9)).heap.size=w.heap.size+1+1:=by simp
   rw [e0] at k;exact k
  have HN1:Hid (NmR w W1 #[.slice a1 xs.length c1,.slice a2 ys.length c2,.slice (some ⟨g2,o2,none⟩) is.length c3,.slice a4 bs.length c4] #[.int .i64 2,.int .i64 ln,.slice sa ps.length sc] 0 (.slice (some ⟨w.heap.size+1,0,none⟩) 0 0) []):=by
   obtain ⟨k1,k2,k3⟩:=HW.out W1 HB1.out.2;have l0:=ROwns.lit0 (w.alloc (.cells #[.slice a1 xs.length c1,.slice a2 ys.length c2,.slice (some ⟨g2,o2,none⟩) is.length c3,.slice a4 bs.length c4] 35)) (w.heap.size+1) 9 (by simp);have e0:(w.alloc (.cells #[.slice a1 xs.length c1,.slice a2 ys.length c2,.slice (some ⟨g2,o2,none⟩) is.length c3,.slice a4 bs.length c4] 35)).heap.size=w.heap.size+1:=by simp
   rw [e0] at l0;exact ⟨l0.below HB1.out.2 nR,fun k hk=>by simp [Value.ownBlock] at hk;omega,k1,k2,HB1.out.1⟩
  go_enter Tryz.func78,Tryz.ntmps78
  go_wp2_with (go_at_call 80;refine (zam ((j:Int)+1) 1 _ _).mono ?_;rintro e w7 ⟨rfl,rfl⟩;rw [HIN.out])
  clear hW1 y0 y1 y2 x2 HB1 HW HL0;go_loopw [5,7] (fun x5 kk wr=>∃ (lv:Value) (l:List ByteArray) (q:Nat),lv=x5/\q<=ps.length/\kk=.int .i64 q/\Hid (NmR w wr #[.slice a1 xs.length c1,.slice a2 ys.length c2,.slice (some ⟨g2,o2,none⟩) is.length c3,.slice a4 bs.length c4] #[.int .i64 2,.int .i64 ln,.slice sa ps.length sc] 0 lv l/\l.length<=4 * q/\l=(nmdP bs (ps.take q)).map (·.1))) (fun _ kk _=>ps.length - (intOf kk).toNat)
  case atStart=>exact ⟨_,[],0,rfl,Nat.zero_le _,rfl,HN1.out,by decide,by simp [nmdP]⟩
  case round =>
   obtain ⟨lv,l,q,hlv,hq,rfl,HR⟩:=hrel;subst hlv;obtain ⟨wo,hwo⟩:∃ wo,wo=wr:=⟨_,rfl⟩
   subst hwo;clear HN1;have q0:(0:Int)<=(q:Int):=by omega
   have x7:wo.cell? ⟨w.heap.size+1+1,2,none⟩=some (.slice sa ps.length sc):=HR.out.1.x.cell 2;by_cases hlt:q < ps.length
   rotate_left
   ·have q1:¬ ((q:Int) < (ps.length:Int)):=by omega
    go_wp2;go_ret;refine ⟨_,rfl,?_,HR.out.1.b⟩;have e1:=HR.out.2.2;rw [List.take_of_length_le (by omega),HRES.out] at e1;rw [← e1];exact HR.out.1.o.base_le (by omega)
   have q1:(q:Int) < (ps.length:Int):=by omega
   obtain ⟨pa',pc',e1,hcp⟩:=HRR.out;simp only [Value.slice.injEq,true_and] at e1;obtain ⟨rfl,rfl⟩:=e1;obtain ⟨gp,op,rfl,hgp,kp⟩:=hcp q hlt;obtain ⟨Pn,hPn⟩:∃ Pn,ps[q]=Pn:=⟨_,rfl⟩
   rw [hPn] at kp;have HTK:=hide (zfj (bs:=bs) hlt);rw [hPn] at HTK;have CB:=hide (fun (W:World) (hd:Below w.heap.size w W)=>zfa Pn (.slice a1 xs.length c1) (.slice a2 ys.length c2) (.slice (some ⟨g2,o2,none⟩) is.length c3) (.slice a4 bs.length c4) xs ys is bs w W HIH.out hd HBL.out);have hb4:(blkAt bs Pn).2.1.length<=4:=zj5 HKK.out Pn;obtain ⟨⟨bd,bss,btx⟩,hBD⟩:∃ X,blkAt bs Pn=X:=⟨_,rfl⟩
   obtain ⟨F,hF⟩:∃ F,inB Pn 1 bs.length=F:=⟨_,rfl⟩
   rw [hBD,hF] at CB;rw [hBD] at hb4;simp only at hb4;have HWR:Hid (∀ W,Below wo.heap.size wo W->NmR w W #[.slice a1 xs.length c1,.slice a2 ys.length c2,.slice (some ⟨g2,o2,none⟩) is.length c3,.slice a4 bs.length c4] #[.int .i64 2,.int .i64 ln,.slice (some ⟨gp,op,none⟩) ps.length sc] 0 lv l/\W.cell? ⟨gp,op+q,none⟩=some (.int .i64 Pn)):=fun W b=>by
    have r2:=HR.out.1.below b;exact ⟨r2,(r2.b.cell (p:=⟨gp,op+q,none⟩) hgp).trans kp⟩
   rw [hBD] at HTK;clear hPn kp hcp hBD hF;go_upto_region 8 with fail
   clear x7;go_cut [8,9] from 35 to 78 (fun bv ok wx=>∃ (bw:Nat) (ba:Option Addr) (bc:Nat),bv=.pointer (some ⟨bw,0,none⟩)/\ok=.bool F/\AtC wx bw 74 #[.bool bd,.slice ba bss.length bc,.string btx]/\RSl w (.slice ba bss.length bc) bss/\Below wo.heap.size wo wx/\wo.heap.size<=bw)
   case first =>
    refine zad (by kernel_rfl) [0,1,2,3,4,5,6,7,8,9,10] [11,12] [([0,1,2,3,4,5,6,7,8,10],[[9,11,12],[11,9,12]])] (fun i=>match i with|0=>.const [] (.agg #[.slice a1 xs.length c1,.slice a2 ys.length c2,.slice (some ⟨g2,o2,none⟩) is.length c3,.slice a4 bs.length c4])|1=>.const [] (.pointer (some ⟨w.heap.size+1+1,2,none⟩))|2=>.const [1] (.slice (some ⟨gp,op,none⟩) ps.length sc)|3=>.const [] (.int .i64 (q:Int))|4=>.const [2,3] (.pointer (some ⟨gp,op+q,none⟩))|5=>.const [4] (.int .i64 Pn)|6=>MkT2 [0,5] (BlkR w bd btx bss F) BlkR.below|7=>MkMv 6|8=>MkFs 7|9=>MkSd 7|10=>MkW 74 #[.bool false,.slice none 0 0,.string ⟨#[]⟩]|_=>.triv) (fun x=>⟨List.toArray ((.agg #[.slice a1 xs.length c1,.slice a2 ys.length c2,.slice (some ⟨g2,o2,none⟩) is.length c3,.slice a4 bs.length c4])::(.int .i64 (↑j+1))::(.pointer (some ⟨w.heap.size,0,none⟩))::(undef)::(.slice none 0 0)::(lv)::(.pointer (some ⟨w.heap.size+1+1,0,none⟩))::(.int .i64 ↑q)::(x 10)::(u9)::(u10)::(.slice (some ⟨w.heap.size+1,0,none⟩) 0 0)::(.int .i64 (↑j+1))::(.pointer (some ⟨w.heap.size,2,none⟩))::(.slice (some ⟨g2,o2,none⟩) is.length c3)::(.int .i64 ↑is.length)::(.bool true)::(.bool false)::(.bool false)::(.pointer (some ⟨w.heap.size,2,none⟩))::(.slice (some ⟨g2,o2,none⟩) is.length c3)::(.int .i64 (↑j+1))::(.int .i64 ↑j)::(.pointer (some ⟨g2,o2+j * 3,none⟩))::(.pointer (some ⟨g2,o2+j * 3,none⟩))::(.int .i64 2)::(.bool false)::(.bool false)::(undef)::(.pointer (some ⟨w.heap.size,2,none⟩))::(.slice (some ⟨g2,o2,none⟩) is.length c3)::(.int .i64 (↑j+1))::(.int .i64 ↑j)::(.pointer (some ⟨g2,o2+j * 3,none⟩))::(.agg #[.int .i64 2,.int .i64 ln,.slice (some ⟨gp,op,none⟩) ps.length sc])::(.int .i64 ↑q)::(.pointer (some ⟨w.heap.size+1+1,2,none⟩))::(.slice (some ⟨gp,op,none⟩) ps.length sc)::(.int .i64 ↑ps.length)::(.bool true)::(u40)::(u41)::(x 7)::(x 0)::(x 1)::(x 2)::(x 3)::(x 4)::(x 5)::(x 6)::(x 8)::(x 9)::(u52)::(u53)::(u54)::(u55)::(u56)::(u57)::(u58)::(u59)::(u60)::(u61)::(u62)::(u63)::(u64)::(u65)::(u66)::(u67)::(u68)::(u69)::(u70)::(u71)::(u72)::(u73)::(u74)::(u75)::(u76)::(u77)::(u78)::(undef)::[]),[]⟩) (fun i=>match i with|0=>u43|1=>u44|2=>u45|3=>u46|4=>u47|5=>u48|6=>u49|7=>u42|8=>u50|9=>u51|10=>u8|_=>undef) rfl (zae (by kernel_rfl) (by kernel_rfl)) (by kernel_rfl) (by kernel_rfl) (by kernel_rfl) rfl ?_ ?_ ?_
    ·intro jo hj so x iw W hd hp K hK;simp only [List.mem_cons,List.not_mem_nil,or_false] at hj;rcases hj with rfl|rfl|rfl|rfl|rfl|rfl|rfl|rfl|rfl|rfl|rfl<;>refine wpOp_step (o:=_) rfl fun K' hK'=>?_<;>have HK:=hide (fun (v:Value) (W':World) h1 h2=>hK' _ _ (hK v W' h1 h2))<;>simp only [upd,Nat.reduceEqDiff,if_true,if_false] at HK
     ·have bw:=zaa hp.bel;have k0:=(HWR.out W bw).1.d;obtain ⟨q5,q6,q7,q8⟩:=AtC.four k0;clear k0 bw;go_simp;exact HK.out _ _ bR rfl
     ·clear hK hK' hp hd;go_simp;exact HK.out _ _ bR rfl
     ·have e1:x 1=.pointer (some ⟨w.heap.size+1+1,2,none⟩):=hp.post 1 (hd 1 mz0);have bw:=zaa hp.bel;have q5:W.cell? ⟨w.heap.size+1+1,2,none⟩=some (.slice (some ⟨gp,op,none⟩) ps.length sc):=(HWR.out W bw).1.x.cell 2;clear bw;simp only [e1] at HK ⊢;go_simp;exact HK.out _ _ bR rfl
     ·clear hK hK' hp hd;go_simp;exact HK.out _ _ bR rfl
     ·have e2:x 2=.slice (some ⟨gp,op,none⟩) ps.length sc:=hp.post 2 (hd 2 mz0);have e3:x 3=.int .i64 (q:Int):=hp.post 3 (hd 3 mz1);simp only [e2,e3] at HK ⊢;go_simp;exact HK.out _ _ bR rfl
     ·have e4:x 4=.pointer (some ⟨gp,op+q,none⟩):=hp.post 4 (hd 4 mz0);have bw:=zaa hp.bel;have q9:=(HWR.out W bw).2;clear bw;simp only [e4] at HK ⊢;go_simp;exact HK.out _ _ bR rfl
     ·have e0:x 0=.agg #[.slice a1 xs.length c1,.slice a2 ys.length c2,.slice (some ⟨g2,o2,none⟩) is.length c3,.slice a4 bs.length c4]:=hp.post 0 (hd 0 mz0);have e5:x 5=.int .i64 Pn:=hp.post 5 (hd 5 mz1);have dr:=(HWR.out W (zaa hp.bel)).1.b;simp only [e0,e5] at HK ⊢;clear e0 e5;go_simp;refine (CB.out W dr).mono ?_;rintro e w6 ⟨sv,rfl,R6,B6⟩;obtain ⟨ba,bc,rfl,hR6⟩:=R6;go_simp;exact HK.out _ _ B6 ⟨_,_,rfl,ba,bc,rfl,rfl,ba,bc,rfl,hR6⟩
     ·have e6:∃ a r,x 6=.tuple #[a,r]/\BlkR w bd btx bss F (iw 6).1 (iw 6).2 W a r:=hp.post 6 (hd 6 mz0);obtain ⟨a,r,e6,-⟩:=e6;have ea:=hide e6;simp only [e6] at HK ⊢;clear e6;go_simp;exact HK.out _ _ bR ⟨ea.out,a,r,rfl⟩
     ·have e7:x 6=x 7/\∃ a r,x 7=.tuple #[a,r]:=hp.post 7 (hd 7 mz0);obtain ⟨-,a,r,e7⟩:=e7;have ea:Hid (a=fstOf (x 7)):=by rw [e7];rfl
      simp only [e7] at HK ⊢;clear e7;go_simp;exact HK.out _ _ bR ea.out
     ·have e7:x 6=x 7/\∃ a r,x 7=.tuple #[a,r]:=hp.post 7 (hd 7 mz0);obtain ⟨-,a,r,e7⟩:=e7;have ea:Hid (r=sndOf (x 7)):=by rw [e7];rfl
      simp only [e7] at HK ⊢;clear e7;go_simp;exact HK.out _ _ bR ea.out
     ·clear hK hK' hp hd;go_simp;exact HK.out _ _ ((Below.refl _ W).alloc nR _) ⟨rfl,by simp,AtC.new W 74 _⟩
    ·intro x iw W hp;obtain ⟨a,r,e6,R6⟩:=hp.post 6 (by decide);obtain ⟨e7,-⟩:=hp.post 7 (by decide);have e8:x 8=fstOf (x 7):=hp.post 8 (by decide);have e9:x 9=sndOf (x 7):=hp.post 9 (by decide);obtain ⟨e10,z10,A10⟩:=hp.post 10 (by decide);have l10:=hp.lo 10 (by decide);have lc:=hp.lo 6 (by decide);have bel:=zaa hp.bel;have ap:=hp.apart 6 (by decide) 10 (by decide) (by decide);rw [← e7,e6] at e8;rw [← e7,e6] at e9
     replace e9:x 9=r:=e9
     rw [e6] at e7
     replace e7:=e7.symm
     replace e8:x 8=a:=e8
     have y0:W.cell? ⟨(iw 10).1,0,none⟩=some (.bool false):=A10.cell 0;have f0:=A10.frozen 0;have y1:W.cell? ⟨(iw 10).1,1,none⟩=some (.slice none 0 0):=A10.cell 1;have f1:=A10.frozen 1;have y2:W.cell? ⟨(iw 10).1,2,none⟩=some (.string ⟨#[]⟩):=A10.cell 2;have f2:=A10.frozen 2;obtain ⟨ba,bc,rfl,rfl,hR⟩:=R6;have hb10:wo.heap.size<=(iw 10).1:=l10.1;have HFI:Hid (AtC W (iw 10).1 74 #[.bool false,.slice none 0 0,.string ⟨#[]⟩]/\RSl w (.slice ba bss.length bc) bss/\Below wo.heap.size wo W/\wo.heap.size<=(iw 10).1):=⟨A10,hR,bel,hb10⟩
     clear hp A10 hR bel ap lc l10 z10 hb10;simp only [e7,e8,e10,e9] at *;generalize (iw 10).1=bw at *;go_wp2_with fail
     try rw [List.filterMap_nil]
     try go_wp2_with fail
     go_meet
     exact ⟨bw,ba,bc,rfl,rfl,((HFI.out.1.set 0 _).set 1 _).set 2 _,HFI.out.2.1,((HFI.out.2.2.1.setCell (p:=⟨bw,0,none⟩) HFI.out.2.2.2 _).setCell (p:=⟨bw,1,none⟩) HFI.out.2.2.2 _).setCell (p:=⟨bw,2,none⟩) HFI.out.2.2.2 _,HFI.out.2.2.2⟩
    ·intro qa hqa l hl x iw W hp;simp only [List.mem_cons,List.not_mem_nil,or_false] at hqa;subst hqa;simp only [List.mem_cons,List.not_mem_nil,or_false] at hl;obtain ⟨a,r,e6,R6⟩:=hp.post 6 (by decide);obtain ⟨e7,-⟩:=hp.post 7 (by decide);have e8:x 8=fstOf (x 7):=hp.post 8 (by decide);obtain ⟨e10,z10,A10⟩:=hp.post 10 (by decide);have l10:=hp.lo 10 (by decide);have lc:=hp.lo 6 (by decide);have bel:=zaa hp.bel;have ap:=hp.apart 6 (by decide) 10 (by decide) (by decide);rw [← e7,e6] at e8;rw [e6] at e7
     replace e7:=e7.symm
     replace e8:x 8=a:=e8
     have y0:W.cell? ⟨(iw 10).1,0,none⟩=some (.bool false):=A10.cell 0;have f0:=A10.frozen 0;have y1:W.cell? ⟨(iw 10).1,1,none⟩=some (.slice none 0 0):=A10.cell 1;have f1:=A10.frozen 1;have y2:W.cell? ⟨(iw 10).1,2,none⟩=some (.string ⟨#[]⟩):=A10.cell 2;have f2:=A10.frozen 2;obtain ⟨ba,bc,rfl,rfl,hR⟩:=R6;have hb10:wo.heap.size<=(iw 10).1:=l10.1;have HFI:Hid (AtC W (iw 10).1 74 #[.bool false,.slice none 0 0,.string ⟨#[]⟩]/\RSl w (.slice ba bss.length bc) bss/\Below wo.heap.size wo W/\wo.heap.size<=(iw 10).1):=⟨A10,hR,bel,hb10⟩
     clear hp A10 hR bel ap lc l10 z10 hb10;simp only [e7,e8,e10] at *;generalize (iw 10).1=bw at *;rcases hl with rfl | rfl
     ·go_wp2_with fail
      try rw [List.filterMap_nil]
      try go_wp2_with fail
      go_meet
      exact ⟨bw,ba,bc,rfl,rfl,((HFI.out.1.set 0 _).set 1 _).set 2 _,HFI.out.2.1,((HFI.out.2.2.1.setCell (p:=⟨bw,0,none⟩) HFI.out.2.2.2 _).setCell (p:=⟨bw,1,none⟩) HFI.out.2.2.2 _).setCell (p:=⟨bw,2,none⟩) HFI.out.2.2.2 _,HFI.out.2.2.2⟩
     ·go_wp2_with fail
      try rw [List.filterMap_nil]
      try go_wp2_with fail
      go_meet
      exact ⟨bw,ba,bc,rfl,rfl,((HFI.out.1.set 0 _).set 1 _).set 2 _,HFI.out.2.1,((HFI.out.2.2.1.setCell (p:=⟨bw,0,none⟩) HFI.out.2.2.2 _).setCell (p:=⟨bw,1,none⟩) HFI.out.2.2.2 _).setCell (p:=⟨bw,2,none⟩) HFI.out.2.2.2 _,HFI.out.2.2.2⟩
   case rest =>
    obtain ⟨bw,ba,bc,rfl,rfl,Aw,Rw,Bw,lw⟩:=hcut;have HN2:Hid (NmR w wc #[.slice a1 xs.length c1,.slice a2 ys.length c2,.slice (some ⟨g2,o2,none⟩) is.length c3,.slice a4 bs.length c4] #[.int .i64 2,.int .i64 ln,.slice (some ⟨gp,op,none⟩) ps.length sc] bw lv l/\AtC wc bw 74 #[.bool bd,.slice ba bss.length bc,.string btx]/\l.length<=4 * q+0/\l=(nmdP bs (ps.take q)).map (·.1) ++ (nmdS (bss.take 0)).map (·.1)):=⟨(HR.out.1.below Bw).turn (fun k hk=>by have:=(HR.out.1.o.lt k hk).2;omega),Aw,HR.out.2.1,by rw [HR.out.2.2];simp [nmdS]⟩
    have HRS:=hide Rw;clear Aw Rw Bw CB HR HWR lw;go_wp2_with fail
    go_loopw [5,10] (fun x5 kk wr=>∃ (lv:Value) (l:List ByteArray) (t:Nat),lv=x5/\t<=bss.length/\kk=.int .i64 t/\Hid (NmR w wr #[.slice a1 xs.length c1,.slice a2 ys.length c2,.slice (some ⟨g2,o2,none⟩) is.length c3,.slice a4 bs.length c4] #[.int .i64 2,.int .i64 ln,.slice (some ⟨gp,op,none⟩) ps.length sc] bw lv l/\AtC wr bw 74 #[.bool bd,.slice ba bss.length bc,.string btx]/\l.length<=4 * q+t/\l=(nmdP bs (ps.take q)).map (·.1) ++ (nmdS (bss.take t)).map (·.1)/\(bd=true\/t=0))) (fun _ kk _=>bss.length - (intOf kk).toNat)
    case atStart=>exact ⟨lv,l,0,rfl,Nat.zero_le _,rfl,HN2.out.1,HN2.out.2.1,HN2.out.2.2.1,HN2.out.2.2.2,.inr rfl⟩
    case round =>
     clear HN2;obtain ⟨lv',l',t,hlv,ht,rfl,HS⟩:=hrel;subst hlv;have g0:wr.cell? ⟨bw,0,none⟩=some (.bool bd):=HS.out.2.1.cell 0;have g1:wr.cell? ⟨bw,1,none⟩=some (.slice ba bss.length bc):=HS.out.2.1.cell 1;have t0:(0:Int)<=(t:Int):=by omega
     have hq2:q < 2:=by omega
     by_cases htl:t < bss.length
     rotate_left
     ·have t1:¬ ((t:Int) < (bss.length:Int)):=by omega
      go_wp2;go_roundw
      case rel =>
       refine ⟨lv',l',q+1,rfl,by omega,by go_num,HS.out.1.turn (fun k hk=>by have:=(HS.out.1.o.lt k hk).1;omega),by have:=HS.out.2.2.1;omega,?_⟩;rw [HTK.out,List.map_append,HS.out.2.2.2.1,List.take_of_length_le (show bss.length<=t by omega)];rcases HS.out.2.2.2.2 with rfl | e
       ·rfl
       ·have:bss=[]:=List.length_eq_zero_iff.1 (by omega);subst this
        cases bd<;>rfl
      case measure=>simp [intOf];omega
     have t1:(t:Int) < (bss.length:Int):=by omega
     cases bd with
     | false =>
      go_wp2;go_roundw
      case rel =>
       refine ⟨lv',l',q+1,rfl,by omega,by go_num,HS.out.1.turn (fun k hk=>by have:=(HS.out.1.o.lt k hk).1;omega),by have:=HS.out.2.2.1;omega,?_⟩;rcases HS.out.2.2.2.2 with e | e
       ·cases e
       ·subst e;rw [HTK.out,List.map_append,HS.out.2.2.2.1];rfl
      case measure=>simp [intOf];omega
     | true =>
     obtain ⟨sa',sc',e1,-,hcs⟩:=HRS.out;simp only [Value.slice.injEq,true_and] at e1;obtain ⟨rfl,rfl⟩:=e1;obtain ⟨gs,os,rfl,hgs,ks0,ks1⟩:=hcs t htl;obtain ⟨sn,hsn⟩:∃ sn,bss[t].1=sn:=⟨_,rfl⟩
     rw [hsn] at ks0;have HTS:=hide (zfk htl);have HSN:=hide hsn
     replace ks0:=(HS.out.1.b.cell (p:=⟨gs,os+t * 2,none⟩) hgs).trans ks0
     clear hcs hsn ks1;by_cases hse:sn=⟨#[]⟩
     ·subst hse;go_wp2;go_roundw
      case rel =>
       refine ⟨lv',l',t+1,rfl,by omega,by go_num,HS.out.1,HS.out.2.1,by have:=HS.out.2.2.1;omega,?_,by simp⟩;rw [HTS.out,HS.out.2.2.2.1,if_pos HSN.out,List.append_nil]
      case measure=>simp [intOf];omega
     have hse2:(sn.toList == ([]:List UInt8))=false:=zc2 hse;have hse3:(sn.toList != ([]:List UInt8))=true:=by simp [bne,hse2]
     have HT:Hid (ROwns (wr.alloc (.cells #[.string sn] 9)) (w.heap.size+1) 9 lv' (stc l')):=HS.out.1.o.alloc _;have HK2:Hid ((wr.alloc (.cells #[.string sn] 9)).cell? ⟨wr.heap.size,0,none⟩=some (.string sn)):=(AtC.new wr 9 #[.string sn]).cell 0;have HSZ:Hid (w.heap.size+1<=(wr.alloc (.cells #[.string sn] 9)).heap.size):=by have:=HS.out.1.b.size;show _<=_;simp;omega
     have HTL:Hid ((stc l').length<=100000000000):=by have:=HS.out.2.2.1;show _<=_;rw [zci];omega
     have HAL:Hid (Below wr.heap.size wr (wr.alloc (.cells #[.string sn] 9))):=(Below.refl _ wr).alloc nR _;go_wp2_with (at_builtin;refine wpList_step fun K' hK'=>?_;refine zal _ rfl (.tmp 70) (.tmp 77) 96 rfl (w.heap.size+1) 9 Tryz.w96 _ 16 Tryz.w9 rfl (by decide) lv' _ rfl HT.out HSZ.out wr.heap.size (.string sn) rfl HK2.out rfl HTL.out ?_;intro v12 w12 T12 G12 V12;refine hK' _ _ ?_;have HR12:=hide (And.intro T12 (And.intro G12 V12));clear T12 G12 V12 hK')
     have HRL:Hid (NmR w w12 #[.slice a1 xs.length c1,.slice a2 ys.length c2,.slice (some ⟨g2,o2,none⟩) is.length c3,.slice a4 bs.length c4] #[.int .i64 2,.int .i64 ln,.slice (some ⟨gp,op,none⟩) ps.length sc] bw v12 (l' ++ [sn])/\AtC w12 bw 74 #[.bool true,.slice (some ⟨gs,os,none⟩) bss.length bc,.string btx]/\(l' ++ [sn]).length<=4 * q+(t+1)/\l' ++ [sn]=(nmdP bs (ps.take q)).map (·.1) ++ (nmdS (bss.take (t+1))).map (·.1)):=by
      obtain ⟨T12,G12,V12⟩:=HR12.out;have n1:=HS.out.1.below HAL.out;have hbw:bw < (wr.alloc (.cells #[.string sn] 9)).heap.size:=(HS.out.2.1.over HAL.out).lt;refine ⟨n1.app (by rw [zgg];exact T12) G12 V12 hbw,(HS.out.2.1.over HAL.out).grown G12 (fun e=>(HS.out.1.n _ e).2 rfl),by have:=HS.out.2.2.1;simp;omega,?_⟩;rw [HTS.out,HS.out.2.2.2.1,if_neg (by rw [HSN.out];exact hse),List.map_append,List.append_assoc,List.map_cons,List.map_nil,HSN.out]
     go_roundw
     case rel=>exact ⟨v12,l' ++ [sn],t+1,rfl,by omega,by go_num,HRL.out.1,HRL.out.2.1,HRL.out.2.2.1,HRL.out.2.2.2,by simp⟩
     case measure=>simp [intOf];omega
def zaq (is:List Ino) (bs:List Blk) (i:Int):ByteArray×ByteArray:=if zab is i=1 then ((blkAt bs ((zak is i).getD 0 0)).2.2,(blkAt bs ((zak is i).getD 1 0)).2.2) else (⟨#[]⟩,⟨#[]⟩)
theorem text_any (x:Int)(dx dy iv bv:Value)(xs ys:List Bool)(is:List Ino)(bs:List Blk)(w:World)(h:DR w dx dy iv bv xs ys is bs)(hi:is.length<=1048576)(hbl:bs.length<=1048576)(hp:∀ q∈is,q.2.2.length=2) :
  Calls Tryz.prog 81 #[.agg #[dx,dy,iv,bv],.int .i64 x] w fun e w'=>e=.returned (.tuple #[.string (zaq is bs x).1,.string (zaq is bs x).2])/\Below w.heap.size w w':=by
 obtain ⟨a3,c3,rfl,-,hc⟩:=h.i;have HH:=hide h;have HBL:=hide hbl
 cases hin:inB x 1 is.length with
 | false =>
  have HIN:=hide hin;have e0:zaq is bs x=(⟨#[]⟩,⟨#[]⟩):=by unfold zaq;rw [zaz hin];rfl
  rw [e0];clear hin h hc hi hp hbl e0;have HB:Hid (∀ A,Below w.heap.size w (w.alloc (.cells A 35))):=fun A=>(Below.refl _ w).alloc nR _;go_enter Tryz.func81,Tryz.ntmps81
  go_wp2_with (go_at_call 80;refine (zam x 1 _ _).mono ?_;rintro e w7 ⟨rfl,rfl⟩;rw [HIN.out])
  go_ret2
  exact ⟨rfl,HB.out _⟩
 | true =>
  have HIN:=hide hin;obtain ⟨h1,h2⟩:=zao hin;obtain ⟨j,rfl⟩:∃ j:Nat,x=(j:Int)+1:=⟨(x - 1).toNat,by omega⟩
  have hj:j < is.length:=by omega
  obtain ⟨g2,o2,⟨t0,t1,t2⟩,rfl,hg2,r0,r1,r2,e0,e1,rr⟩:=hc j hj;have hpl:=hp _ (List.getElem_mem hj);have hT:zaq is bs ((j:Int)+1)=if is[j].1=1 then ((blkAt bs (is[j].2.2.getD 0 0)).2.2,(blkAt bs (is[j].2.2.getD 1 0)).2.2) else (⟨#[]⟩,⟨#[]⟩):=by unfold zaq;rw [(zai hj).1,(zai hj).2]
  rw [hT];obtain ⟨⟨kd,ln,ps⟩,hX⟩:∃ X,is[j]=X:=⟨_,rfl⟩
  rw [hX] at e0 e1 rr hpl ⊢;simp only at e0 e1 rr r0 r1 r2 hpl ⊢;subst e0 e1;obtain ⟨p0,p1,rfl⟩:∃ p0 p1,ps=[p0,p1]:=by
   match ps,hpl with
   | [p0,p1],_=>exact ⟨p0,p1,rfl⟩
  obtain ⟨sa,sc,e1,hcp⟩:=rr;have e2:t2=.slice sa 2 sc:=e1;subst e2;obtain ⟨gp,op,rfl,hgp,kp0⟩:=hcp 0 (by simp);obtain ⟨gp',op',e3,-,kp1⟩:=hcp 1 (by simp);simp only [Option.some.injEq,Addr.mk.injEq,and_true] at e3;obtain ⟨rfl,rfl⟩:=e3;simp only [List.getElem_cons_zero,List.getElem_cons_succ,Nat.add_zero] at kp0 kp1;have HW:Hid (∀ W,Below (w.alloc (.cells #[dx,dy,.slice (some ⟨g2,o2,none⟩) is.length c3,bv] 35)).heap.size (w.alloc (.cells #[dx,dy,.slice (some ⟨g2,o2,none⟩) is.length c3,bv] 35)) W->Below w.heap.size w W/\AtC W w.heap.size 35 #[dx,dy,.slice (some ⟨g2,o2,none⟩) is.length c3,bv]/\W.cell? ⟨g2,o2+j * 3,none⟩=some (.int .i64 kd)/\W.cell? ⟨g2,o2+j * 3+1,none⟩=some (.int .i64 ln)/\W.cell? ⟨g2,o2+j * 3+2,none⟩=some (.slice (some ⟨gp,op,none⟩) 2 sc)/\W.cell? ⟨gp,op,none⟩=some (.int .i64 p0)/\W.cell? ⟨gp,op+1,none⟩=some (.int .i64 p1)):=fun W b=>by
   have bb:Below w.heap.size w W:=((Below.refl _ w).alloc nR _).trans (b.mono (by simp));exact ⟨bb,(AtC.new w 35 _).over b,(bb.cell (p:=⟨g2,o2+j * 3,none⟩) hg2).trans r0,(bb.cell (p:=⟨g2,o2+j * 3+1,none⟩) hg2).trans r1,(bb.cell (p:=⟨g2,o2+j * 3+2,none⟩) hg2).trans r2,(bb.cell (p:=⟨gp,op,none⟩) hgp).trans kp0,(bb.cell (p:=⟨gp,op+1,none⟩) hgp).trans kp1⟩
  have hwj:IntKind.i64.wrap (j:Int)=(j:Int):=wrap_small _ (by omega) (by omega);have j0:(0:Int)<=(j:Int):=by omega
  have j1:(j:Int) < (is.length:Int):=by omega
  obtain ⟨-,-,y0,y1,y2,y3,y4⟩:=HW.out _ bR;have HB:Hid (Below w.heap.size w (w.alloc (.cells #[dx,dy,.slice (some ⟨g2,o2,none⟩) is.length c3,bv] 35))):=(HW.out _ bR).1;clear hT hX hin h1 h2 hp hc hcp h r0 r1 r2 kp0 kp1 hpl hi hbl;by_cases hkd:kd=1
  rotate_left
  ·have hkb:(kd != 1)=true:=by simp [hkd]
   rw [if_neg hkd];go_enter Tryz.func81,Tryz.ntmps81
   go_wp2_with (go_at_call 80;refine (zam ((j:Int)+1) 1 _ _).mono ?_;rintro e w7 ⟨rfl,rfl⟩;rw [HIN.out])
   go_ret2
   exact ⟨rfl,HB.out⟩
  subst hkd;rw [if_pos rfl];simp only [List.getD_cons_zero,List.getD_cons_succ];have CB:=hide (fun (P:Int) (W:World) (hd:Below w.heap.size w W)=>zfa P dx dy (.slice (some ⟨g2,o2,none⟩) is.length c3) bv xs ys is bs w W HH.out hd HBL.out);obtain ⟨⟨bd,bss,btx⟩,hBD⟩:∃ X,blkAt bs p0=X:=⟨_,rfl⟩
  obtain ⟨⟨cd,css,ctx⟩,hCD⟩:∃ X,blkAt bs p1=X:=⟨_,rfl⟩
  obtain ⟨F,hF⟩:∃ F,inB p0 1 bs.length=F:=⟨_,rfl⟩
  obtain ⟨G,hG⟩:∃ F,inB p1 1 bs.length=F:=⟨_,rfl⟩
  have CB0:=hide (CB.out p0);have CB1:=hide (CB.out p1);rw [hBD,hF] at CB0;rw [hCD,hG] at CB1;rw [hBD,hCD];clear hBD hCD hF hG CB HB;obtain ⟨w0,hw0⟩:∃ w0,(w.alloc (.cells #[dx,dy,.slice (some ⟨g2,o2,none⟩) is.length c3,bv] 35))=w0:=⟨_,rfl⟩
  have hsz0:w.heap.size+1<=w0.heap.size:=by rw [← hw0];simp
  rw [hw0] at HW y0 y1 y2 y3 y4;have x2:w0.cell? ⟨w.heap.size,2,none⟩=some (.slice (some ⟨g2,o2,none⟩) is.length c3):=(HW.out _ bR).2.1.cell 2;go_enter Tryz.func81,Tryz.ntmps81
  go_upto_region 3 with (go_at_call 80;refine (zam ((j:Int)+1) 1 _ _).mono ?_;rintro e w7 ⟨rfl,hw7⟩;subst w7;rw [HIN.out])
  clear hw0 y0 y1 y2 y3 y4 x2;go_cut [6,7] from 37 to 50 (fun bv ok wx=>∃ (bw:Nat) (ba:Option Addr) (bc:Nat),bv=.pointer (some ⟨bw,0,none⟩)/\ok=.bool F/\AtC wx bw 74 #[.bool bd,.slice ba bss.length bc,.string btx]/\Below w0.heap.size w0 wx/\w0.heap.size<=bw)
  case first =>
   refine zad (by kernel_rfl) [0,1,2,3,4,5,6,7,8,9,10,11,12,13,14] [15,16] [([0,1,2,3,4,5,6,7,8,9,10,11,12,14],[[13,15,16],[15,13,16]])] (fun i=>match i with|0=>.const [] (.agg #[dx,dy,.slice (some ⟨g2,o2,none⟩) is.length c3,bv])|1=>.const [] (.pointer (some ⟨w.heap.size,2,none⟩))|2=>.const [1] (.slice (some ⟨g2,o2,none⟩) is.length c3)|3=>.const [] (.int .i64 ((j:Int)+1))|4=>.const [3] (.int .i64 (j:Int))|5=>.const [2,4] (.pointer (some ⟨g2,o2+j * 3,none⟩))|6=>.const [5] (.pointer (some ⟨g2,o2+j * 3+2,none⟩))|7=>.const [6] (.slice (some ⟨gp,op,none⟩) 2 sc)|8=>.const [7] (.pointer (some ⟨gp,op,none⟩))|9=>.const [8] (.int .i64 p0)|10=>MkT2 [0,9] (BlkR w bd btx bss F) BlkR.below|11=>MkMv 10|12=>MkFs 11|13=>MkSd 11|14=>MkW 74 #[.bool false,.slice none 0 0,.string ⟨#[]⟩]|_=>.triv) (fun x=>⟨List.toArray ((.agg #[dx,dy,.slice (some ⟨g2,o2,none⟩) is.length c3,bv])::(.int .i64 (↑j+1))::(.pointer (some ⟨w.heap.size,0,none⟩))::(undef)::(.string { data:=#[] })::(.string { data:=#[] })::(x 14)::(undef)::(undef)::(undef)::(.int .i64 (↑j+1))::(.pointer (some ⟨w.heap.size,2,none⟩))::(.slice (some ⟨g2,o2,none⟩) is.length c3)::(.int .i64 ↑is.length)::(.bool true)::(.bool false)::(.bool false)::(.pointer (some ⟨w.heap.size,2,none⟩))::(.slice (some ⟨g2,o2,none⟩) is.length c3)::(.int .i64 (↑j+1))::(.int .i64 ↑j)::(.pointer (some ⟨g2,o2+j * 3,none⟩))::(.pointer (some ⟨g2,o2+j * 3,none⟩))::(.int .i64 1)::(.bool false)::(.bool false)::(.bool false)::(.pointer (some ⟨w.heap.size,2,none⟩))::(.slice (some ⟨g2,o2,none⟩) is.length c3)::(.int .i64 (↑j+1))::(.int .i64 ↑j)::(.pointer (some ⟨g2,o2+j * 3,none⟩))::(.pointer (some ⟨g2,o2+j * 3+2,none⟩))::(.slice (some ⟨gp,op,none⟩) 2 sc)::(.int .i64 2)::(.bool false)::(.bool false)::(x 11)::(x 0)::(x 1)::(x 2)::(x 3)::(x 4)::(x 5)::(x 6)::(x 7)::(x 8)::(x 9)::(x 10)::(x 12)::(x 13)::(undef)::(undef)::(undef)::(undef)::(undef)::(undef)::(undef)::(undef)::(undef)::(undef)::(undef)::(undef)::(undef)::(undef)::(undef)::(undef)::(undef)::(undef)::[]),[]⟩) (fun i=>match i with|0=>undef|1=>undef|2=>undef|3=>undef|4=>undef|5=>undef|6=>undef|7=>undef|8=>undef|9=>undef|10=>undef|11=>undef|12=>undef|13=>undef|14=>undef|_=>undef) rfl (zae (by kernel_rfl) (by kernel_rfl)) (by kernel_rfl) (by kernel_rfl) (by kernel_rfl) rfl ?_ ?_ ?_
   ·intro jo hj so x iw W hd hp K hK;simp only [List.mem_cons,List.not_mem_nil,or_false] at hj;rcases hj with rfl|rfl|rfl|rfl|rfl|rfl|rfl|rfl|rfl|rfl|rfl|rfl|rfl|rfl|rfl<;>refine wpOp_step (o:=_) rfl fun K' hK'=>?_<;>have HK:=hide (fun (v:Value) (W':World) h1 h2=>hK' _ _ (hK v W' h1 h2))<;>simp only [upd,Nat.reduceEqDiff,if_true,if_false] at HK
    ·have bw:=zaa hp.bel;obtain ⟨qb,qd,q0,q1,q2,q3,q4⟩:=HW.out W bw;have k0:W.cell? ⟨w.heap.size,0,none⟩=some (dx):=qd.cell 0;have k1:W.cell? ⟨w.heap.size,1,none⟩=some (dy):=qd.cell 1;have k2:W.cell? ⟨w.heap.size,2,none⟩=some (.slice (some ⟨g2,o2,none⟩) is.length c3):=qd.cell 2;have k3:W.cell? ⟨w.heap.size,3,none⟩=some (bv):=qd.cell 3;clear bw qb qd q0 q1 q2 q3 q4;go_simp;exact HK.out _ _ bR rfl
    ·clear hK hK' hp hd;go_simp;exact HK.out _ _ bR rfl
    ·have e1:x 1=.pointer (some ⟨w.heap.size,2,none⟩):=hp.post 1 (hd 1 mz0);have bw:=zaa hp.bel;obtain ⟨qb,qd,q0,q1,q2,q3,q4⟩:=HW.out W bw;have k1:W.cell? ⟨w.heap.size,2,none⟩=some (.slice (some ⟨g2,o2,none⟩) is.length c3):=qd.cell 2;clear bw qb qd q0 q1 q2 q3 q4;simp only [e1] at HK ⊢;go_simp;exact HK.out _ _ bR rfl
    ·clear hK hK' hp hd;go_simp;exact HK.out _ _ bR rfl
    ·have e3:x 3=.int .i64 ((j:Int)+1):=hp.post 3 (hd 3 mz0);simp only [e3] at HK ⊢;go_simp;exact HK.out _ _ bR rfl
    ·have e2:x 2=.slice (some ⟨g2,o2,none⟩) is.length c3:=hp.post 2 (hd 2 mz0);have e4:x 4=.int .i64 (j:Int):=hp.post 4 (hd 4 mz1);simp only [e2,e4] at HK ⊢;go_simp;exact HK.out _ _ bR rfl
    ·have e5:x 5=.pointer (some ⟨g2,o2+j * 3,none⟩):=hp.post 5 (hd 5 mz0);simp only [e5] at HK ⊢;go_simp;exact HK.out _ _ bR rfl
    ·have e6:x 6=.pointer (some ⟨g2,o2+j * 3+2,none⟩):=hp.post 6 (hd 6 mz0);have bw:=zaa hp.bel;obtain ⟨qb,qd,q0,q1,q2,q3,q4⟩:=HW.out W bw;clear bw qb qd q0 q1 q3 q4;simp only [e6] at HK ⊢;go_simp;exact HK.out _ _ bR rfl
    ·have e7:x 7=.slice (some ⟨gp,op,none⟩) 2 sc:=hp.post 7 (hd 7 mz0);simp only [e7] at HK ⊢;go_simp;exact HK.out _ _ bR rfl
    ·have e8:x 8=.pointer (some ⟨gp,op,none⟩):=hp.post 8 (hd 8 mz0);have bw:=zaa hp.bel;obtain ⟨qb,qd,q0,q1,q2,q3,q4⟩:=HW.out W bw;clear bw qb qd q0 q1 q2 q4;simp only [e8] at HK ⊢;go_simp;exact HK.out _ _ bR rfl
    ·have e0:x 0=.agg #[dx,dy,.slice (some ⟨g2,o2,none⟩) is.length c3,bv]:=hp.post 0 (hd 0 mz0);have e9:x 9=.int .i64 p0:=hp.post 9 (hd 9 mz1);have dr:=(HW.out W (zaa hp.bel)).1;simp only [e0,e9] at HK ⊢;clear e0 e9;go_simp;refine (CB0.out W dr).mono ?_;rintro e w6 ⟨sv,rfl,R6,B6⟩;obtain ⟨ba,bc,rfl,hR6⟩:=R6;go_simp;exact HK.out _ _ B6 ⟨_,_,rfl,ba,bc,rfl,rfl,ba,bc,rfl,hR6⟩
    ·have e10:∃ a r,x 10=.tuple #[a,r]/\BlkR w bd btx bss F (iw 10).1 (iw 10).2 W a r:=hp.post 10 (hd 10 mz0);obtain ⟨a,r,e10,-⟩:=e10;have ea:=hide e10;simp only [e10] at HK ⊢;clear e10;go_simp;exact HK.out _ _ bR ⟨ea.out,a,r,rfl⟩
    ·have e11:x 10=x 11/\∃ a r,x 11=.tuple #[a,r]:=hp.post 11 (hd 11 mz0);obtain ⟨-,a,r,e11⟩:=e11;have ea:Hid (a=fstOf (x 11)):=by rw [e11];rfl
     simp only [e11] at HK ⊢;clear e11;go_simp;exact HK.out _ _ bR ea.out
    ·have e11:x 10=x 11/\∃ a r,x 11=.tuple #[a,r]:=hp.post 11 (hd 11 mz0);obtain ⟨-,a,r,e11⟩:=e11;have ea:Hid (r=sndOf (x 11)):=by rw [e11];rfl
     simp only [e11] at HK ⊢;clear e11;go_simp;exact HK.out _ _ bR ea.out
    ·clear hK hK' hp hd;go_simp;exact HK.out _ _ ((Below.refl _ W).alloc nR _) ⟨rfl,by simp,AtC.new W 74 _⟩
   ·intro x iw W hp;obtain ⟨a,r,e10,R10⟩:=hp.post 10 (by decide);obtain ⟨e11,-⟩:=hp.post 11 (by decide);have e12:x 12=fstOf (x 11):=hp.post 12 (by decide);have e13:x 13=sndOf (x 11):=hp.post 13 (by decide);obtain ⟨e14,z14,A14⟩:=hp.post 14 (by decide);have l14:=hp.lo 14 (by decide);have lc:=hp.lo 10 (by decide);have bel:=zaa hp.bel;have ap:=hp.apart 10 (by decide) 14 (by decide) (by decide);rw [← e11,e10] at e12;rw [← e11,e10] at e13
    replace e13:x 13=r:=e13
    rw [e10] at e11
    replace e11:=e11.symm
    replace e12:x 12=a:=e12
    have y0:W.cell? ⟨(iw 14).1,0,none⟩=some (.bool false):=A14.cell 0;have f0:=A14.frozen 0;have y1:W.cell? ⟨(iw 14).1,1,none⟩=some (.slice none 0 0):=A14.cell 1;have f1:=A14.frozen 1;have y2:W.cell? ⟨(iw 14).1,2,none⟩=some (.string ⟨#[]⟩):=A14.cell 2;have f2:=A14.frozen 2;obtain ⟨ba,bc,rfl,rfl,hR⟩:=R10;have hb14:w0.heap.size<=(iw 14).1:=l14.1;have HFI:Hid (AtC W (iw 14).1 74 #[.bool false,.slice none 0 0,.string ⟨#[]⟩]/\Below w0.heap.size w0 W/\w0.heap.size<=(iw 14).1):=⟨A14,bel,hb14⟩
    clear hp A14 hR bel ap lc l14 z14 hb14;simp only [e11,e12,e14,e13] at *;generalize (iw 14).1=bw at *;go_wp2_with fail
    try rw [List.filterMap_nil]
    try go_wp2_with fail
    go_meet
    exact ⟨bw,ba,bc,rfl,rfl,((HFI.out.1.set 0 _).set 1 _).set 2 _,((HFI.out.2.1.setCell (p:=⟨bw,0,none⟩) HFI.out.2.2 _).setCell (p:=⟨bw,1,none⟩) HFI.out.2.2 _).setCell (p:=⟨bw,2,none⟩) HFI.out.2.2 _,HFI.out.2.2⟩
   ·intro qa hqa l hl x iw W hp;simp only [List.mem_cons,List.not_mem_nil,or_false] at hqa;subst hqa;simp only [List.mem_cons,List.not_mem_nil,or_false] at hl;obtain ⟨a,r,e10,R10⟩:=hp.post 10 (by decide);obtain ⟨e11,-⟩:=hp.post 11 (by decide);have e12:x 12=fstOf (x 11):=hp.post 12 (by decide);obtain ⟨e14,z14,A14⟩:=hp.post 14 (by decide);have l14:=hp.lo 14 (by decide);have lc:=hp.lo 10 (by decide);have bel:=zaa hp.bel;have ap:=hp.apart 10 (by decide) 14 (by decide) (by decide);rw [← e11,e10] at e12;rw [e10] at e11
    replace e11:=e11.symm
    replace e12:x 12=a:=e12
    have y0:W.cell? ⟨(iw 14).1,0,none⟩=some (.bool false):=A14.cell 0;have f0:=A14.frozen 0;have y1:W.cell? ⟨(iw 14).1,1,none⟩=some (.slice none 0 0):=A14.cell 1;have f1:=A14.frozen 1;have y2:W.cell? ⟨(iw 14).1,2,none⟩=some (.string ⟨#[]⟩):=A14.cell 2;have f2:=A14.frozen 2;obtain ⟨ba,bc,rfl,rfl,hR⟩:=R10;have hb14:w0.heap.size<=(iw 14).1:=l14.1;have HFI:Hid (AtC W (iw 14).1 74 #[.bool false,.slice none 0 0,.string ⟨#[]⟩]/\Below w0.heap.size w0 W/\w0.heap.size<=(iw 14).1):=⟨A14,bel,hb14⟩
    clear hp A14 hR bel ap lc l14 z14 hb14;simp only [e11,e12,e14] at *;generalize (iw 14).1=bw at *;rcases hl with rfl | rfl
    ·go_wp2_with fail
     try rw [List.filterMap_nil]
     try go_wp2_with fail
     go_meet
     exact ⟨bw,ba,bc,rfl,rfl,((HFI.out.1.set 0 _).set 1 _).set 2 _,((HFI.out.2.1.setCell (p:=⟨bw,0,none⟩) HFI.out.2.2 _).setCell (p:=⟨bw,1,none⟩) HFI.out.2.2 _).setCell (p:=⟨bw,2,none⟩) HFI.out.2.2 _,HFI.out.2.2⟩
    ·go_wp2_with fail
     try rw [List.filterMap_nil]
     try go_wp2_with fail
     go_meet
     exact ⟨bw,ba,bc,rfl,rfl,((HFI.out.1.set 0 _).set 1 _).set 2 _,((HFI.out.2.1.setCell (p:=⟨bw,0,none⟩) HFI.out.2.2 _).setCell (p:=⟨bw,1,none⟩) HFI.out.2.2 _).setCell (p:=⟨bw,2,none⟩) HFI.out.2.2 _,HFI.out.2.2⟩
  case rest =>
   obtain ⟨bw,ba,bc,rfl,rfl,Aw,Bw,lw⟩:=hcut;obtain ⟨w1,hw1⟩:∃ w1,w1=wc:=⟨_,rfl⟩
   subst hw1;have HW1:Hid (∀ W,Below w1.heap.size w1 W->Below w.heap.size w W/\AtC W w.heap.size 35 #[dx,dy,.slice (some ⟨g2,o2,none⟩) is.length c3,bv]/\W.cell? ⟨g2,o2+j * 3,none⟩=some (.int .i64 1)/\W.cell? ⟨g2,o2+j * 3+1,none⟩=some (.int .i64 ln)/\W.cell? ⟨g2,o2+j * 3+2,none⟩=some (.slice (some ⟨gp,op,none⟩) 2 sc)/\W.cell? ⟨gp,op,none⟩=some (.int .i64 p0)/\W.cell? ⟨gp,op+1,none⟩=some (.int .i64 p1)):=fun W b=>HW.out W (Bw.trans (b.mono Bw.size));have HA:Hid (∀ W,Below w1.heap.size w1 W->W.cell? ⟨bw,2,none⟩=some (.string btx)):=fun W b=>(Aw.over b).cell 2;have HLT:=hide (And.intro Aw.lt (And.intro lw hsz0));clear Aw Bw HW CB0 lw;go_upto_region 4 with fail
   go_cut [8,9] from 51 to 64 (fun bv ok wx=>∃ (bw:Nat) (ba:Option Addr) (bc:Nat),bv=.pointer (some ⟨bw,0,none⟩)/\ok=.bool G/\AtC wx bw 74 #[.bool cd,.slice ba css.length bc,.string ctx]/\Below w1.heap.size w1 wx/\w1.heap.size<=bw)
   case first =>
    refine zad (by kernel_rfl) [0,1,2,3,4,5,6,7,8,9,10,11,12,13,14] [15,16] [([0,1,2,3,4,5,6,7,8,9,10,11,12,14],[[13,15,16],[15,13,16]])] (fun i=>match i with|0=>.const [] (.agg #[dx,dy,.slice (some ⟨g2,o2,none⟩) is.length c3,bv])|1=>.const [] (.pointer (some ⟨w.heap.size,2,none⟩))|2=>.const [1] (.slice (some ⟨g2,o2,none⟩) is.length c3)|3=>.const [] (.int .i64 ((j:Int)+1))|4=>.const [3] (.int .i64 (j:Int))|5=>.const [2,4] (.pointer (some ⟨g2,o2+j * 3,none⟩))|6=>.const [5] (.pointer (some ⟨g2,o2+j * 3+2,none⟩))|7=>.const [6] (.slice (some ⟨gp,op,none⟩) 2 sc)|8=>.const [7] (.pointer (some ⟨gp,op+1,none⟩))|9=>.const [8] (.int .i64 p1)|10=>MkT2 [0,9] (BlkR w cd ctx css G) BlkR.below|11=>MkMv 10|12=>MkFs 11|13=>MkSd 11|14=>MkW 74 #[.bool false,.slice none 0 0,.string ⟨#[]⟩]|_=>.triv) (fun x=>⟨List.toArray ((.agg #[dx,dy,.slice (some ⟨g2,o2,none⟩) is.length c3,bv])::(.int .i64 (↑j+1))::(.pointer (some ⟨w.heap.size,0,none⟩))::(undef)::(.string { data:=#[] })::(.string { data:=#[] })::(.pointer (some ⟨bw,0,none⟩))::(.bool F)::(x 14)::(undef)::(.int .i64 (↑j+1))::(.pointer (some ⟨w.heap.size,2,none⟩))::(.slice (some ⟨g2,o2,none⟩) is.length c3)::(.int .i64 ↑is.length)::(.bool true)::(.bool false)::(.bool false)::(.pointer (some ⟨w.heap.size,2,none⟩))::(.slice (some ⟨g2,o2,none⟩) is.length c3)::(.int .i64 (↑j+1))::(.int .i64 ↑j)::(.pointer (some ⟨g2,o2+j * 3,none⟩))::(.pointer (some ⟨g2,o2+j * 3,none⟩))::(.int .i64 1)::(.bool false)::(.bool false)::(.bool false)::(.pointer (some ⟨w.heap.size,2,none⟩))::(.slice (some ⟨g2,o2,none⟩) is.length c3)::(.int .i64 (↑j+1))::(.int .i64 ↑j)::(.pointer (some ⟨g2,o2+j * 3,none⟩))::(.pointer (some ⟨g2,o2+j * 3+2,none⟩))::(.slice (some ⟨gp,op,none⟩) 2 sc)::(.int .i64 2)::(.bool false)::(.bool false)::(u37)::(u38)::(u39)::(u40)::(u41)::(u42)::(u43)::(u44)::(u45)::(u46)::(u47)::(u48)::(u49)::(u50)::(x 11)::(x 0)::(x 1)::(x 2)::(x 3)::(x 4)::(x 5)::(x 6)::(x 7)::(x 8)::(x 9)::(x 10)::(x 12)::(x 13)::(undef)::(undef)::(undef)::(undef)::[]),[]⟩) (fun i=>match i with|0=>undef|1=>undef|2=>undef|3=>undef|4=>undef|5=>undef|6=>undef|7=>undef|8=>undef|9=>undef|10=>undef|11=>undef|12=>undef|13=>undef|14=>undef|_=>undef) rfl (zae (by kernel_rfl) (by kernel_rfl)) (by kernel_rfl) (by kernel_rfl) (by kernel_rfl) rfl ?_ ?_ ?_
    ·intro jo hj so x iw W hd hp K hK;simp only [List.mem_cons,List.not_mem_nil,or_false] at hj;rcases hj with rfl|rfl|rfl|rfl|rfl|rfl|rfl|rfl|rfl|rfl|rfl|rfl|rfl|rfl|rfl<;>refine wpOp_step (o:=_) rfl fun K' hK'=>?_<;>have HK:=hide (fun (v:Value) (W':World) h1 h2=>hK' _ _ (hK v W' h1 h2))<;>simp only [upd,Nat.reduceEqDiff,if_true,if_false] at HK
     ·have bw:=zaa hp.bel;obtain ⟨qb,qd,q0,q1,q2,q3,q4⟩:=HW1.out W bw;have k0:W.cell? ⟨w.heap.size,0,none⟩=some (dx):=qd.cell 0;have k1:W.cell? ⟨w.heap.size,1,none⟩=some (dy):=qd.cell 1;have k2:W.cell? ⟨w.heap.size,2,none⟩=some (.slice (some ⟨g2,o2,none⟩) is.length c3):=qd.cell 2;have k3:W.cell? ⟨w.heap.size,3,none⟩=some (bv):=qd.cell 3;clear bw qb qd q0 q1 q2 q3 q4;go_simp;exact HK.out _ _ bR rfl
     ·clear hK hK' hp hd;go_simp;exact HK.out _ _ bR rfl
     ·have e1:x 1=.pointer (some ⟨w.heap.size,2,none⟩):=hp.post 1 (hd 1 mz0);have bw:=zaa hp.bel;obtain ⟨qb,qd,q0,q1,q2,q3,q4⟩:=HW1.out W bw;have k1:W.cell? ⟨w.heap.size,2,none⟩=some (.slice (some ⟨g2,o2,none⟩) is.length c3):=qd.cell 2;clear bw qb qd q0 q1 q2 q3 q4;simp only [e1] at HK ⊢;go_simp;exact HK.out _ _ bR rfl
     ·clear hK hK' hp hd;go_simp;exact HK.out _ _ bR rfl
     ·have e3:x 3=.int .i64 ((j:Int)+1):=hp.post 3 (hd 3 mz0);simp only [e3] at HK ⊢;go_simp;exact HK.out _ _ bR rfl
     ·have e2:x 2=.slice (some ⟨g2,o2,none⟩) is.length c3:=hp.post 2 (hd 2 mz0);have e4:x 4=.int .i64 (j:Int):=hp.post 4 (hd 4 mz1);simp only [e2,e4] at HK ⊢;go_simp;exact HK.out _ _ bR rfl
     ·have e5:x 5=.pointer (some ⟨g2,o2+j * 3,none⟩):=hp.post 5 (hd 5 mz0);simp only [e5] at HK ⊢;go_simp;exact HK.out _ _ bR rfl
     ·have e6:x 6=.pointer (some ⟨g2,o2+j * 3+2,none⟩):=hp.post 6 (hd 6 mz0);have bw:=zaa hp.bel;obtain ⟨qb,qd,q0,q1,q2,q3,q4⟩:=HW1.out W bw;clear bw qb qd q0 q1 q3 q4;simp only [e6] at HK ⊢;go_simp;exact HK.out _ _ bR rfl
     ·have e7:x 7=.slice (some ⟨gp,op,none⟩) 2 sc:=hp.post 7 (hd 7 mz0);simp only [e7] at HK ⊢;go_simp;exact HK.out _ _ bR rfl
     ·have e8:x 8=.pointer (some ⟨gp,op+1,none⟩):=hp.post 8 (hd 8 mz0);have bw:=zaa hp.bel;obtain ⟨qb,qd,q0,q1,q2,q3,q4⟩:=HW1.out W bw;clear bw qb qd q0 q1 q2 q3;simp only [e8] at HK ⊢;go_simp;exact HK.out _ _ bR rfl
     ·have e0:x 0=.agg #[dx,dy,.slice (some ⟨g2,o2,none⟩) is.length c3,bv]:=hp.post 0 (hd 0 mz0);have e9:x 9=.int .i64 p1:=hp.post 9 (hd 9 mz1);have dr:=(HW1.out W (zaa hp.bel)).1;simp only [e0,e9] at HK ⊢;clear e0 e9;go_simp;refine (CB1.out W dr).mono ?_;rintro e w6 ⟨sv,rfl,R6,B6⟩;obtain ⟨ba,bc,rfl,hR6⟩:=R6;go_simp;exact HK.out _ _ B6 ⟨_,_,rfl,ba,bc,rfl,rfl,ba,bc,rfl,hR6⟩
     ·have e10:∃ a r,x 10=.tuple #[a,r]/\BlkR w cd ctx css G (iw 10).1 (iw 10).2 W a r:=hp.post 10 (hd 10 mz0);obtain ⟨a,r,e10,-⟩:=e10;have ea:=hide e10;simp only [e10] at HK ⊢;clear e10;go_simp;exact HK.out _ _ bR ⟨ea.out,a,r,rfl⟩
     ·have e11:x 10=x 11/\∃ a r,x 11=.tuple #[a,r]:=hp.post 11 (hd 11 mz0);obtain ⟨-,a,r,e11⟩:=e11;have ea:Hid (a=fstOf (x 11)):=by rw [e11];rfl
      simp only [e11] at HK ⊢;clear e11;go_simp;exact HK.out _ _ bR ea.out
     ·have e11:x 10=x 11/\∃ a r,x 11=.tuple #[a,r]:=hp.post 11 (hd 11 mz0);obtain ⟨-,a,r,e11⟩:=e11;have ea:Hid (r=sndOf (x 11)):=by rw [e11];rfl
      simp only [e11] at HK ⊢;clear e11;go_simp;exact HK.out _ _ bR ea.out
     ·clear hK hK' hp hd;go_simp;exact HK.out _ _ ((Below.refl _ W).alloc nR _) ⟨rfl,by simp,AtC.new W 74 _⟩
    ·intro x iw W hp;obtain ⟨a,r,e10,R10⟩:=hp.post 10 (by decide);obtain ⟨e11,-⟩:=hp.post 11 (by decide);have e12:x 12=fstOf (x 11):=hp.post 12 (by decide);have e13:x 13=sndOf (x 11):=hp.post 13 (by decide);obtain ⟨e14,z14,A14⟩:=hp.post 14 (by decide);have l14:=hp.lo 14 (by decide);have lc:=hp.lo 10 (by decide);have bel:=zaa hp.bel;have ap:=hp.apart 10 (by decide) 14 (by decide) (by decide);rw [← e11,e10] at e12;rw [← e11,e10] at e13
     replace e13:x 13=r:=e13
     rw [e10] at e11
     replace e11:=e11.symm
     replace e12:x 12=a:=e12
     have y0:W.cell? ⟨(iw 14).1,0,none⟩=some (.bool false):=A14.cell 0;have f0:=A14.frozen 0;have y1:W.cell? ⟨(iw 14).1,1,none⟩=some (.slice none 0 0):=A14.cell 1;have f1:=A14.frozen 1;have y2:W.cell? ⟨(iw 14).1,2,none⟩=some (.string ⟨#[]⟩):=A14.cell 2;have f2:=A14.frozen 2;obtain ⟨ba,bc,rfl,rfl,hR⟩:=R10;have hb14:w1.heap.size<=(iw 14).1:=l14.1;have HFI:Hid (AtC W (iw 14).1 74 #[.bool false,.slice none 0 0,.string ⟨#[]⟩]/\Below w1.heap.size w1 W/\w1.heap.size<=(iw 14).1):=⟨A14,bel,hb14⟩
     clear hp A14 hR bel ap lc l14 z14 hb14;simp only [e11,e12,e14,e13] at *;generalize (iw 14).1=bw at *;go_wp2_with fail
     try rw [List.filterMap_nil]
     try go_wp2_with fail
     go_meet
     exact ⟨bw,ba,bc,rfl,rfl,((HFI.out.1.set 0 _).set 1 _).set 2 _,((HFI.out.2.1.setCell (p:=⟨bw,0,none⟩) HFI.out.2.2 _).setCell (p:=⟨bw,1,none⟩) HFI.out.2.2 _).setCell (p:=⟨bw,2,none⟩) HFI.out.2.2 _,HFI.out.2.2⟩
    ·intro qa hqa l hl x iw W hp;simp only [List.mem_cons,List.not_mem_nil,or_false] at hqa;subst hqa;simp only [List.mem_cons,List.not_mem_nil,or_false] at hl;obtain ⟨a,r,e10,R10⟩:=hp.post 10 (by decide);obtain ⟨e11,-⟩:=hp.post 11 (by decide);have e12:x 12=fstOf (x 11):=hp.post 12 (by decide);obtain ⟨e14,z14,A14⟩:=hp.post 14 (by decide);have l14:=hp.lo 14 (by decide);have lc:=hp.lo 10 (by decide);have bel:=zaa hp.bel;have ap:=hp.apart 10 (by decide) 14 (by decide) (by decide);rw [← e11,e10] at e12;rw [e10] at e11
     replace e11:=e11.symm
     replace e12:x 12=a:=e12
     have y0:W.cell? ⟨(iw 14).1,0,none⟩=some (.bool false):=A14.cell 0;have f0:=A14.frozen 0;have y1:W.cell? ⟨(iw 14).1,1,none⟩=some (.slice none 0 0):=A14.cell 1;have f1:=A14.frozen 1;have y2:W.cell? ⟨(iw 14).1,2,none⟩=some (.string ⟨#[]⟩):=A14.cell 2;have f2:=A14.frozen 2;obtain ⟨ba,bc,rfl,rfl,hR⟩:=R10;have hb14:w1.heap.size<=(iw 14).1:=l14.1;have HFI:Hid (AtC W (iw 14).1 74 #[.bool false,.slice none 0 0,.string ⟨#[]⟩]/\Below w1.heap.size w1 W/\w1.heap.size<=(iw 14).1):=⟨A14,bel,hb14⟩
     clear hp A14 hR bel ap lc l14 z14 hb14;simp only [e11,e12,e14] at *;generalize (iw 14).1=bw at *;rcases hl with rfl | rfl
     ·go_wp2_with fail
      try rw [List.filterMap_nil]
      try go_wp2_with fail
      go_meet
      exact ⟨bw,ba,bc,rfl,rfl,((HFI.out.1.set 0 _).set 1 _).set 2 _,((HFI.out.2.1.setCell (p:=⟨bw,0,none⟩) HFI.out.2.2 _).setCell (p:=⟨bw,1,none⟩) HFI.out.2.2 _).setCell (p:=⟨bw,2,none⟩) HFI.out.2.2 _,HFI.out.2.2⟩
     ·go_wp2_with fail
      try rw [List.filterMap_nil]
      try go_wp2_with fail
      go_meet
      exact ⟨bw,ba,bc,rfl,rfl,((HFI.out.1.set 0 _).set 1 _).set 2 _,((HFI.out.2.1.setCell (p:=⟨bw,0,none⟩) HFI.out.2.2 _).setCell (p:=⟨bw,1,none⟩) HFI.out.2.2 _).setCell (p:=⟨bw,2,none⟩) HFI.out.2.2 _,HFI.out.2.2⟩
   case rest =>
    obtain ⟨bw2,ba2,bc2,rfl,rfl,Aw,Bw,lw⟩:=hcut;have z2:wc.cell? ⟨bw2,2,none⟩=some (.string ctx):=Aw.cell 2;have z1:wc.cell? ⟨bw,2,none⟩=some (.string btx):=HA.out _ Bw;have HF:=hide (HW1.out _ Bw).1;clear Aw Bw HW1 HA CB1 lw;go_wp2;go_quiet (fail)
    go_wp2
    go_ret2
    exact ⟨rfl,below_drewN HF.out _⟩
abbrev bl:=Op.bytesLess
theorem zcj:∀ a:List UInt8,bl a a=false
 | []=>rfl
 | x :: r=>by
  have:=zcj r;simp [bl,Op.bytesLess] at this ⊢;exact this
theorem za5 {x y:UInt8}{a b:List UInt8}:bl (x :: a) (y :: b)=true↔x < y\/(x=y/\bl a b=true):=by
 simp [bl,Op.bytesLess]
theorem zdu:∀ {a b:List UInt8},bl a b=true->bl b a=false
 | [],[],h=>by simp [bl,Op.bytesLess] at h
 | [],_ :: _,_=>by simp [bl,Op.bytesLess]
 | _ :: _,[],h=>by simp [bl,Op.bytesLess] at h
 | x :: a,y :: b,h=>by
  cases e:bl (y :: b) (x :: a) with
  | false=>rfl
  | true =>
   rcases za5.1 h with h1 | ⟨rfl,h1⟩
   ·rcases za5.1 e with h2 | ⟨rfl,h2⟩
    ·exact absurd h1 (UInt8.lt_asymm h2)
    ·exact absurd h1 (UInt8.lt_irrefl _)
   ·rcases za5.1 e with h2 | ⟨_,h2⟩
    ·exact absurd h2 (UInt8.lt_irrefl _)
    ·rw [zdu h1] at h2;cases h2
theorem zda:∀ {a b:List UInt8},bl a b=false->bl b a=false->a=b
 | [],[],_,_=>rfl
 | [],_ :: _,h,_=>by simp [bl,Op.bytesLess] at h
 | _ :: _,[],_,h=>by simp [bl,Op.bytesLess] at h
 | x :: a,y :: b,h,h'=>by
  have h1:¬ (x < y\/(x=y/\bl a b=true)):=fun e=>by rw [za5.2 e] at h;cases h
  have h2:¬ (y < x\/(y=x/\bl b a=true)):=fun e=>by rw [za5.2 e] at h';cases h'
  have e:x=y:=by
   have a1:¬ x < y:=fun e=>h1 (.inl e);have a2:¬ y < x:=fun e=>h2 (.inl e);exact UInt8.le_antisymm (UInt8.not_lt.1 a2) (UInt8.not_lt.1 a1)
  subst e;rw [zda (a:=a) (b:=b)]
  ·cases q:bl a b with
   | false=>rfl
   | true=>exact absurd (.inr ⟨rfl,q⟩) h1
  ·cases q:bl b a with
   | false=>rfl
   | true=>exact absurd (.inr ⟨rfl,q⟩) h2
theorem zky {a b c:List UInt8}(h:bl a b=true)(h':bl b c=true):bl a c=true:=by
 induction a generalizing b c with
 | nil =>
  cases c with
  | nil=>cases b<;>simp [bl,Op.bytesLess] at h'
  | cons z c=>simp [bl,Op.bytesLess]
 | cons x a ih =>
  cases b with
  | nil=>simp [bl,Op.bytesLess] at h
  | cons y b =>
   cases c with
   | nil=>simp [bl,Op.bytesLess] at h'
   | cons z c =>
    rcases za5.1 h with h1 | ⟨rfl,h1⟩
    ·rcases za5.1 h' with h2 | ⟨rfl,h2⟩
     ·exact za5.2 (.inl (UInt8.lt_trans h1 h2))
     ·exact za5.2 (.inl h1)
    ·rcases za5.1 h' with h2 | ⟨rfl,h2⟩
     ·exact za5.2 (.inl h2)
     ·exact za5.2 (.inr ⟨rfl,ih h1 h2⟩)
theorem zj6 {a b c:List UInt8}(h1:bl b a=false)(h2:bl c b=false):bl c a=false:=by
 cases e:bl c a with
 | false=>rfl
 | true =>
  cases e2:bl a b with
  | true=>rw [zky e e2] at h2;cases h2
  | false =>
   have:=zda h1 e2;subst this;rw [h2] at e;cases e
theorem bl_gt (a b:List UInt8):(!(Op.bytesLess a b || a == b))=bl b a:=by
 cases e:bl a b with
 | true=>rw [zdu e,show Op.bytesLess a b=true from e];rfl
 | false =>
  rw [show Op.bytesLess a b=false from e,Bool.false_or]
  cases e2:bl b a with
  | true =>
   have:¬ a=b:=fun q=>by subst q;rw [zcj] at e2;cases e2
   simp [this]
  | false =>
   have:=zda e e2;simp [this]
theorem ziy {α:Type}:∀ (q:Nat) (l:List α) (h:q+1 < l.length),((l.set (q+1) (l[q]'(by omega))).set q l[q+1]).Perm l
 | 0,x :: y :: r,_=>by simpa using List.Perm.swap x y r
 | 0,[_],h=>by simp at h
 | 0,[],h=>by simp at h
 | q+1,[],h=>by simp at h
 | q+1,x :: r,h=>by
  have:=ziy q r (by simpa using h);simpa using this
namespace Kit
theorem AtC.empty {w:World}{g:Nat}{T:TypeId}(h:AtC w g T #[])(B:Nat)(hB:B<=g)(m:Nat):w.ownsRow B T m (.slice (some ⟨g,0,none⟩) 0 0) 0 [] :=
 ⟨by simp,.inr ⟨g,0,#[],rfl,hB,h,Nat.le_refl _,Nat.zero_le _,by simp,by simp⟩⟩
end Kit
namespace Kit
theorem NOwns.rc {w:World}{e:TypeId}{n:Nat}{v:Value}{ts:List Row}(h:NOwns w e n v ts):RC w v ts.length ts.flatten:=by
 have hf:=zco h.1;rcases h.2.2 with ⟨h1,h0⟩ | ⟨g,cap,cur,rfl,h2,h3,h4,h5,h6,h7⟩
 ·have:ts=[]:=List.length_eq_zero_iff.mp h0;subst this;obtain ⟨a,c,e1,-⟩:=h.form;exact ⟨a,c,e1,fun j u hj=>by simp at hj⟩
 ·have h':w.ownsRow 0 e n (.slice (some ⟨g,0,none⟩) ts.length cap) ts.length ts.flatten:=h.2;refine ⟨_,_,rfl,fun j u hj=>⟨g,0,rfl,?_⟩⟩;rw [Nat.zero_add];exact (h'.cellAt j (by have:=List.getElem?_eq_some_iff.mp hj;obtain ⟨q,-⟩:=this;omega)).trans hj
abbrev Nd:=ByteArray×Bool×ByteArray×ByteArray
def ndRow (x:Nd):Row:=[.string x.1,.bool x.2.1,.string x.2.2.1,.string x.2.2.2]
def NdO (w:World) (B:Nat) (v:Value) (ns:List Nd):Prop:=NOwns w 62 4 v (ns.map ndRow)/\∀ k,v.ownBlock=some k->B<=k
namespace NdO
variable {w w' : World} {B : Nat} {v : Value} {ns : List Nd}
theorem lt (h:NdO w B v ns):∀ k,v.ownBlock=some k->B<=k/\k < w.heap.size:=fun k hk=>⟨h.2 k hk,h.1.lt k hk⟩
theorem of_heap (h:NdO w B v ns)(hh:∀ k,v.ownBlock=some k->w'.heap[k]?=w.heap[k]?):NdO w' B v ns:=⟨h.1.of_heap hh,h.2⟩
theorem below (h:NdO w B v ns)(hb:Below w.heap.size w w'):NdO w' B v ns:=h.of_heap fun k hk=>hb.block k (h.lt k hk).2
theorem mono {B':Nat}(h:NdO w B v ns)(hB:B'<=B):NdO w B' v ns:=⟨h.1,fun k hk=>Nat.le_trans hB (h.2 k hk)⟩
theorem nil (w:World)(B:Nat):NdO w B (.slice none 0 0) []:=⟨NOwns.nil _ _ _,fun k hk=>by simp [Value.ownBlock] at hk⟩
theorem lit0 (w:World):NdO (w.alloc (.cells #[] 62)) w.heap.size (.slice (some ⟨w.heap.size,0,none⟩) 0 0) []:=by
 refine ⟨?_,fun k hk=>by simp [Value.ownBlock] at hk;omega⟩;have:=NOwns.of_at (n:=4) (ts:=[]) (AtC.new w 62 #[]) rfl (Even.nil _) (Nat.zero_le _);simpa using this
theorem form (h:NdO w B v ns):∃ a cap,v=.slice a ns.length cap:=by
 obtain ⟨a,cap,e,-⟩:=h.1.form;rw [List.length_map] at e;exact ⟨a,cap,e⟩
theorem rc (h:NdO w B v ns):RC w v ns.length (ns.map ndRow).flatten:=by
 have:=h.1.rc
 rwa [List.length_map] at this
theorem at_ (h:NdO w B v ns)(j:Nat)(hj:j < ns.length):∃ g cap,v=.slice (some ⟨g,0,none⟩) ns.length cap/\w.cell? ⟨g,j * 4,none⟩=some (.string ns[j].1)/\w.cell? ⟨g,j * 4+1,none⟩=some (.bool ns[j].2.1)/\w.cell? ⟨g,j * 4+2,none⟩=some (.string ns[j].2.2.1)/\w.cell? ⟨g,j * 4+3,none⟩=some (.string ns[j].2.2.2)/\(∀ k,w.frozen? ⟨g,k,none⟩=false)/\g < w.heap.size/\B<=g:=by
 obtain ⟨g,cap,e,hc,hf,hg,-⟩:=h.1.at j (by rw [List.length_map];exact hj);rw [List.length_map] at e;refine ⟨g,cap,e,?_,?_,?_,?_,hf,hg,h.2 g (by rw [e];rfl)⟩
 ·have:=hc 0 (by decide);rw [List.getElem_map] at this;exact this
 ·have:=hc 1 (by decide);rw [List.getElem_map] at this;exact this
 ·have:=hc 2 (by decide);rw [List.getElem_map] at this;exact this
 ·have:=hc 3 (by decide);rw [List.getElem_map] at this;exact this
theorem put {g cap:Nat}(h:NdO w B (.slice (some ⟨g,0,none⟩) ns.length cap) ns)(j:Nat)(hj:j < ns.length)(x:Nd):NdO ((((w.setCell ⟨g,j * 4,none⟩ (.string x.1)).setCell ⟨g,j * 4+1,none⟩ (.bool x.2.1)).setCell ⟨g,j * 4+2,none⟩ (.string x.2.2.1)).setCell ⟨g,j * 4+3,none⟩ (.string x.2.2.2)) B (.slice (some ⟨g,0,none⟩) ns.length cap) (ns.set j x):=by
 refine ⟨?_,h.2⟩;have h1:NOwns w 62 4 (.slice (some ⟨g,0,none⟩) (ns.map ndRow).length cap) (ns.map ndRow):=by rw [List.length_map];exact h.1
 have:=NOwns.setRow j (ndRow x) w (ns.map ndRow) (by rw [List.length_map];exact hj) [] h1 rfl (by simp);rw [List.length_map] at this;rw [List.map_set];exact this
end NdO
end Kit
namespace Kit
def ndc (x:Nd):List Value:=[.string x.1,.bool x.2.1,.string x.2.2.1,.string x.2.2.2]
def RNd (w:World) (v:Value) (ns:List Nd):Prop:=∃ a cap,v=.slice a ns.length cap/\∀ (j:Nat) (h:j < ns.length),∃ g off,a=some ⟨g,off,none⟩/\g < w.heap.size/\w.cell? ⟨g,off+j * 4,none⟩=some (.string ns[j].1)/\w.cell? ⟨g,off+j * 4+1,none⟩=some (.bool ns[j].2.1)/\w.cell? ⟨g,off+j * 4+2,none⟩=some (.string ns[j].2.2.1)/\w.cell? ⟨g,off+j * 4+3,none⟩=some (.string ns[j].2.2.2)
theorem RNd.below {w w':World}{B:Nat}{v:Value}{ns:List Nd}(h:RNd w v ns)(hb:Below B w w')(hB:w.heap.size<=B):RNd w' v ns:=by
 obtain ⟨a,cap,rfl,h⟩:=h;refine ⟨a,cap,rfl,fun j hj=>?_⟩;obtain ⟨g,off,e,hg,c0,c1,c2,c3⟩:=h j hj;have hB':g < B:=Nat.lt_of_lt_of_le hg hB;exact ⟨g,off,e,Nat.lt_of_lt_of_le hg hb.size,(hb.cell (p:=⟨g,off+j * 4,none⟩) hB').trans c0,(hb.cell (p:=⟨g,off+j * 4+1,none⟩) hB').trans c1,(hb.cell (p:=⟨g,off+j * 4+2,none⟩) hB').trans c2,(hb.cell (p:=⟨g,off+j * 4+3,none⟩) hB').trans c3⟩
theorem RNd.alloc {w:World}{v:Value}{ns:List Nd}(h:RNd w v ns)(o:Obj):RNd (w.alloc o) v ns:=h.below ((Below.refl _ w).alloc nR o) nR
theorem RNd.drew {w:World}{v:Value}{ns:List Nd}(h:RNd w v ns):RNd w.drew v ns:=h.below (Below.refl w.heap.size w).drew nR
theorem RNd.form {w:World}{v:Value}{ns:List Nd}(h:RNd w v ns):∃ a c,v=.slice a ns.length c:=by
 obtain ⟨a,c,h,_⟩:=h;exact ⟨a,c,h⟩
def ndcs (ns:List Nd):List Value:=(ns.map ndc).flatten
theorem zhc (ns:List Nd)(j i:Nat)(hj:j < ns.length)(hi:i < 4):(ndcs ns)[j * 4+i]?=(ndc ns[j])[i]?:=by
 induction ns generalizing j with
 | nil=>simp at hj
 | cons x r ih =>
  have e:ndcs (x :: r)=ndc x ++ ndcs r:=by simp [ndcs]
  have l4:(ndc x).length=4:=rfl;rw [e]
  cases j with
  | zero=>rw [Nat.zero_mul,Nat.zero_add,List.getElem?_append_left (by omega)];rfl
  | succ j =>
   rw [List.getElem?_append_right (by omega),show (j+1) * 4+i - (ndc x).length=j * 4+i by omega];exact ih j (by simpa using hj)
def At (w:World) (g:Nat) (T:TypeId) (cs:List Value):Prop:=w.heap[g]?=some (.cells cs.toArray T (0,0))
theorem At.cell {w:World}{g:Nat}{T:TypeId}{cs:List Value}(h:At w g T cs)(k:Nat):w.cell? ⟨g,k,none⟩=cs[k]?:=by
 have h':w.heap[g]?=some (.cells cs.toArray T (0,0)):=h;simp [World.cell?,h']
theorem At.frozen {w:World}{g:Nat}{T:TypeId}{cs:List Value}(h:At w g T cs)(k:Nat):w.frozen? ⟨g,k,none⟩=false:=by
 have h':w.heap[g]?=some (.cells cs.toArray T (0,0)):=h;simp [World.frozen?,h']
theorem At.lt {w:World}{g:Nat}{T:TypeId}{cs:List Value}(h:At w g T cs):g < w.heap.size:=by
 have h':w.heap[g]?=some (.cells cs.toArray T (0,0)):=h;rw [Array.getElem?_eq_some_iff] at h';exact h'.1
theorem At.new (w:World)(T:TypeId)(cs:List Value):At (w.alloc (.cells cs.toArray T)) w.heap.size T cs:=zc6 w _
theorem At.below {w w':World}{g B:Nat}{T:TypeId}{cs:List Value}(h:At w g T cs)(hb:Below B w w')(hg:g < B):At w' g T cs:=(hb.block g hg).trans h
theorem At.set {w:World}{g:Nat}{T:TypeId}{cs:List Value}(h:At w g T cs)(k:Nat)(x:Value):At (w.setCell ⟨g,k,none⟩ x) g T (cs.set k x):=by
 have h':w.heap[g]?=some (.cells cs.toArray T (0,0)):=h;have:=heap_setCell_same w g k cs.toArray T x h';simpa [At] using this
end Kit
namespace Kit
def MkNd (ds:List Nat) (l:List Nd):Mk:=.val ds (fun _ _ w v=>RNd w v l) (fun _ _ _ _ _ h hb=>h.below hb nR)
def MkDs (ds:List Nat) (xs ys:List Bool) (is:List Ino) (bs:List Blk):Mk:=.val ds (fun _ _ w v=>∃ a b c d,v=.agg #[a,b,c,d]/\DR w a b c d xs ys is bs) (fun _ _ _ _ _ h hb=>by obtain ⟨a,b,c,d,e,h1⟩:=h;exact ⟨a,b,c,d,e,h1.below hb nR⟩)
end Kit
theorem zhd {a1 a2 a3 a4:Option Addr}{c1 c2 c3 c4:Nat}{xs ys m1 m2 q1 q2:List Bool}{is m3 q3:List Ino}{bs m4 q4:List Blk}{tm td:List Nd}{A B C:Bool}(w:World)
  (CM0:∀ W,Below w.heap.size w W->Calls Tryz.prog 12 #[.agg #[.slice a1 xs.length c1,.slice a2 ys.length c2,.slice a3 is.length c3,.slice a4 bs.length c4]] W fun e w'=>∃ a b c d,e=.returned (.agg #[a,b,c,d])/\DR w' a b c d m1 m2 m3 m4/\Below W.heap.size W w')
  (CQ0:∀ W a b c d,DR W a b c d m1 m2 m3 m4->Calls Tryz.prog 12 #[.agg #[a,b,c,d]] W fun e w'=>∃ a b c d,e=.returned (.agg #[a,b,c,d])/\DR w' a b c d q1 q2 q3 q4/\Below W.heap.size W w')
  (CT0:∀ W a b c d,DR W a b c d m1 m2 m3 m4->Calls Tryz.prog 14 #[.agg #[a,b,c,d]] W fun e w'=>∃ t,e=.returned t/\RNd w' t tm/\Below W.heap.size W w')
  (CU0:∀ W,Below w.heap.size w W->Calls Tryz.prog 14 #[.agg #[.slice a1 xs.length c1,.slice a2 ys.length c2,.slice a3 is.length c3,.slice a4 bs.length c4]] W fun e w'=>∃ t,e=.returned t/\RNd w' t td/\Below W.heap.size W w')
  (CS0:∀ W s t,RNd W s tm->RNd W t td->Calls Tryz.prog 13 #[s,t] W fun e w'=>e=.returned (.bool A)/\Below W.heap.size W w')
  (CX0:∀ W a b c d,DR W a b c d m1 m2 m3 m4->Calls Tryz.prog 15 #[.agg #[a,b,c,d]] W fun e w'=>e=.returned (.bool B)/\Below W.heap.size W w')
  (CD0:∀ W a b c d a' b' c' d',DR W a b c d q1 q2 q3 q4->DR W a' b' c' d' m1 m2 m3 m4->Calls Tryz.prog 16 #[.agg #[a,b,c,d],.agg #[a',b',c',d']] W fun e w'=>e=.returned (.bool C)/\Below W.heap.size W w') :
  Calls Tryz.prog 5 #[.agg #[.slice a1 xs.length c1,.slice a2 ys.length c2,.slice a3 is.length c3,.slice a4 bs.length c4]] w fun e w'=>e=.returned (.bool (A && B && C))/\Below w.heap.size w w':=by
 have CM:=hide CM0;have CQ:=hide CQ0;have CT:=hide CT0;have CU:=hide CU0;have CS:=hide CS0;have CX:=hide CX0;have CD:=hide CD0;clear CM0 CQ0 CT0 CU0 CS0 CX0 CD0;have HB0:Hid (Below w.heap.size w (w.alloc (.cells #[.slice a1 xs.length c1,.slice a2 ys.length c2,.slice a3 is.length c3,.slice a4 bs.length c4] 35))):=(Below.refl _ w).alloc nR _;have HA0:=hide (AtC.new w 35 #[.slice a1 xs.length c1,.slice a2 ys.length c2,.slice a3 is.length c3,.slice a4 bs.length c4]);go_enter Tryz.func5,Tryz.ntmps5
 go_wp2_with fail
 refine (CM.out _ HB0.out).mono ?_;rintro e w1 ⟨d1,d2,d3,d4,rfl,R1,B1⟩;obtain ⟨s1,t1,s2,t2,s3,t3,s4,t4,rfl,rfl,rfl,rfl⟩:=R1.form;have HW1:Hid (AtC w1 w.heap.size 35 #[.slice a1 xs.length c1,.slice a2 ys.length c2,.slice a3 is.length c3,.slice a4 bs.length c4]/\Below w.heap.size w w1/\DR w1 (.slice s1 m1.length t1) (.slice s2 m2.length t2) (.slice s3 m3.length t3) (.slice s4 m4.length t4) m1 m2 m3 m4):=⟨HA0.out.over B1,HB0.out.trans (B1.mono HB0.out.size),R1⟩
 clear R1 B1 HB0 HA0;go_upto_region 2 with fail
 have HW:Hid (∀ W,Below (w1.alloc (.cells #[.slice s1 m1.length t1,.slice s2 m2.length t2,.slice s3 m3.length t3,.slice s4 m4.length t4] 35)).heap.size (w1.alloc (.cells #[.slice s1 m1.length t1,.slice s2 m2.length t2,.slice s3 m3.length t3,.slice s4 m4.length t4] 35)) W->AtC W w.heap.size 35 #[.slice a1 xs.length c1,.slice a2 ys.length c2,.slice a3 is.length c3,.slice a4 bs.length c4]/\AtC W w1.heap.size 35 #[.slice s1 m1.length t1,.slice s2 m2.length t2,.slice s3 m3.length t3,.slice s4 m4.length t4]/\Below w.heap.size w W/\DR W (.slice s1 m1.length t1) (.slice s2 m2.length t2) (.slice s3 m3.length t3) (.slice s4 m4.length t4) m1 m2 m3 m4):=by
  obtain ⟨h1,h2,h3⟩:=HW1.out;intro W b;have hs:=h2.size;have ba:Below w1.heap.size w1 (w1.alloc (.cells #[.slice s1 m1.length t1,.slice s2 m2.length t2,.slice s3 m3.length t3,.slice s4 m4.length t4] 35)):=(((Below.refl _ w1).alloc nR _))
  have bb:=ba.trans (b.mono ba.size);exact ⟨h1.over bb,(AtC.new w1 35 _:AtC (w1.alloc (.cells #[.slice s1 m1.length t1,.slice s2 m2.length t2,.slice s3 m3.length t3,.slice s4 m4.length t4] 35)) w1.heap.size 35 #[.slice s1 m1.length t1,.slice s2 m2.length t2,.slice s3 m3.length t3,.slice s4 m4.length t4]).over b,h2.trans (bb.mono hs),h3.below bb nR⟩
 clear HW1
 cases A with
 | false =>
  refine zad (by kernel_rfl) [0,1,2,3,4,5,6,7,8,9,10,11,12,13,14] [15] [] (fun i=>match i with|0=>.const [] (.agg #[.slice s1 m1.length t1,.slice s2 m2.length t2,.slice s3 m3.length t3,.slice s4 m4.length t4])|1=>MkNd [0] tm|2=>.const [] (.agg #[.slice a1 xs.length c1,.slice a2 ys.length c2,.slice a3 is.length c3,.slice a4 bs.length c4])|3=>MkNd [2] td|4=>.const [1,3] (.bool false)|5=>.const [4] (.bool false)|6=>.val [5] (fun _ _ _ _=>True) (fun _ _ _ _ _ _ _=>trivial)|7=>.val [5] (fun _ _ _ _=>True) (fun _ _ _ _ _ _ _=>trivial)|8=>.const [5] (.bool false)|9=>.const [8] (.bool false)|10=>.val [9] (fun _ _ _ _=>True) (fun _ _ _ _ _ _ _=>trivial)|11=>.val [9] (fun _ _ _ _=>True) (fun _ _ _ _ _ _ _=>trivial)|12=>.val [9] (fun _ _ _ _=>True) (fun _ _ _ _ _ _ _=>trivial)|13=>.val [9] (fun _ _ _ _=>True) (fun _ _ _ _ _ _ _=>trivial)|14=>.const [9] (.bool false)|_=>.triv) (fun x=>⟨#[.agg #[.slice a1 xs.length c1,.slice a2 ys.length c2,.slice a3 is.length c3,.slice a4 bs.length c4],.pointer (some ⟨w.heap.size,0,none⟩),.bool false,.pointer (some ⟨w1.heap.size,0,none⟩),.agg #[.slice a1 xs.length c1,.slice a2 ys.length c2,.slice a3 is.length c3,.slice a4 bs.length c4],.agg #[.slice s1 m1.length t1,.slice s2 m2.length t2,.slice s3 m3.length t3,.slice s4 m4.length t4],x 0,x 1,x 2,x 3,x 4,x 5,x 6,x 7,x 8,x 9,x 10,x 11,x 12,x 13,x 14],[]⟩) (fun i=>match i with|0=>undef|1=>undef|2=>undef|3=>undef|4=>undef|5=>undef|6=>undef|7=>undef|8=>undef|9=>undef|10=>undef|11=>undef|12=>undef|13=>undef|14=>undef|_=>undef) rfl (zae (by kernel_rfl) (by kernel_rfl)) (by kernel_rfl) (by kernel_rfl) (by kernel_rfl) rfl ?_ ?_ (by intro q hq;cases hq)
  ·intro jo hj so x iw W hd hp K hK;simp only [List.mem_cons,List.not_mem_nil,or_false] at hj;rcases hj with rfl|rfl|rfl|rfl|rfl|rfl|rfl|rfl|rfl|rfl|rfl|rfl|rfl|rfl|rfl<;>refine wpOp_step (o:=_) rfl fun K' hK'=>?_<;>have HK:=hide (fun (v:Value) (W':World) h1 h2=>hK' _ _ (hK v W' h1 h2))<;>simp only [upd,Nat.reduceEqDiff,if_true,if_false] at HK
   ·have bw:=HW.out W (zaa hp.bel);obtain ⟨k0,k1,k2,k3⟩:=AtC.four bw.2.1;clear bw;go_simp;exact HK.out _ _ bR rfl
   ·have e0:x 0=.agg #[.slice s1 m1.length t1,.slice s2 m2.length t2,.slice s3 m3.length t3,.slice s4 m4.length t4]:=hp.post 0 (hd 0 mz0);have bw:=HW.out W (zaa hp.bel);simp only [e0] at HK ⊢;clear e0;go_simp;refine (CT.out W _ _ _ _ bw.2.2.2).mono ?_;rintro e w6 ⟨v,rfl,R6,B6⟩;go_simp;exact HK.out _ _ B6 R6
   ·have bw:=HW.out W (zaa hp.bel);obtain ⟨k0,k1,k2,k3⟩:=AtC.four bw.1;clear bw;go_simp;exact HK.out _ _ bR rfl
   ·have e2:x 2=.agg #[.slice a1 xs.length c1,.slice a2 ys.length c2,.slice a3 is.length c3,.slice a4 bs.length c4]:=hp.post 2 (hd 2 mz0);have bw:=HW.out W (zaa hp.bel);simp only [e2] at HK ⊢;clear e2;go_simp;refine (CU.out W bw.2.2.1).mono ?_;rintro e w6 ⟨v,rfl,R6,B6⟩;go_simp;exact HK.out _ _ B6 R6
   ·have e1:RNd W (x 1) tm:=hp.post 1 (hd 1 mz0);have e3:RNd W (x 3) td:=hp.post 3 (hd 3 mz1);go_simp;refine (CS.out W _ _ e1 e3).mono ?_;rintro e w6 ⟨rfl,B6⟩;go_simp;exact HK.out _ _ B6 rfl
   ·have e4:x 4=.bool false:=hp.post 4 (hd 4 mz0);simp only [e4] at HK ⊢;go_simp;exact HK.out _ _ bR rfl
   ·have e5:x 5=.bool false:=hp.post 5 (hd 5 mz0);simp only [e5] at HK ⊢;go_simp;exact HK.out _ _ bR trivial
   ·have e5:x 5=.bool false:=hp.post 5 (hd 5 mz0);simp only [e5] at HK ⊢;go_simp;exact HK.out _ _ bR trivial
   ·have e5:x 5=.bool false:=hp.post 5 (hd 5 mz0);simp only [e5] at HK ⊢;go_simp;exact HK.out _ _ bR rfl
   ·have e8:x 8=.bool false:=hp.post 8 (hd 8 mz0);simp only [e8] at HK ⊢;go_simp;exact HK.out _ _ bR rfl
   ·have e9:x 9=.bool false:=hp.post 9 (hd 9 mz0);simp only [e9] at HK ⊢;go_simp;exact HK.out _ _ bR trivial
   ·have e9:x 9=.bool false:=hp.post 9 (hd 9 mz0);simp only [e9] at HK ⊢;go_simp;exact HK.out _ _ bR trivial
   ·have e9:x 9=.bool false:=hp.post 9 (hd 9 mz0);simp only [e9] at HK ⊢;go_simp;exact HK.out _ _ bR trivial
   ·have e9:x 9=.bool false:=hp.post 9 (hd 9 mz0);simp only [e9] at HK ⊢;go_simp;exact HK.out _ _ bR trivial
   ·have e9:x 9=.bool false:=hp.post 9 (hd 9 mz0);simp only [e9] at HK ⊢;go_simp;exact HK.out _ _ bR rfl
  ·intro x iw W hp;have e14:x 14=.bool false:=hp.post 14 (by decide);have HQ:=hide (HW.out W (zaa hp.bel)).2.2.1;simp only [e14];clear hp e14;go_wp2_with fail
   try rw [List.filterMap_nil]
   try go_wp2
   go_ret;exact ⟨rfl,HQ.out⟩
 | true =>
 cases B with
 | false =>
  refine zad (by kernel_rfl) [0,1,2,3,4,5,6,7,8,9,10,11,12,13,14] [15] [] (fun i=>match i with|0=>.const [] (.agg #[.slice s1 m1.length t1,.slice s2 m2.length t2,.slice s3 m3.length t3,.slice s4 m4.length t4])|1=>MkNd [0] tm|2=>.const [] (.agg #[.slice a1 xs.length c1,.slice a2 ys.length c2,.slice a3 is.length c3,.slice a4 bs.length c4])|3=>MkNd [2] td|4=>.const [1,3] (.bool true)|5=>.const [4] (.bool true)|6=>.const [5] (.agg #[.slice s1 m1.length t1,.slice s2 m2.length t2,.slice s3 m3.length t3,.slice s4 m4.length t4])|7=>.const [6,5] (.bool false)|8=>.const [5,7] (.bool false)|9=>.const [8] (.bool false)|10=>.val [9] (fun _ _ _ _=>True) (fun _ _ _ _ _ _ _=>trivial)|11=>.val [9] (fun _ _ _ _=>True) (fun _ _ _ _ _ _ _=>trivial)|12=>.val [9] (fun _ _ _ _=>True) (fun _ _ _ _ _ _ _=>trivial)|13=>.val [9] (fun _ _ _ _=>True) (fun _ _ _ _ _ _ _=>trivial)|14=>.const [9] (.bool false)|_=>.triv) (fun x=>⟨#[.agg #[.slice a1 xs.length c1,.slice a2 ys.length c2,.slice a3 is.length c3,.slice a4 bs.length c4],.pointer (some ⟨w.heap.size,0,none⟩),.bool false,.pointer (some ⟨w1.heap.size,0,none⟩),.agg #[.slice a1 xs.length c1,.slice a2 ys.length c2,.slice a3 is.length c3,.slice a4 bs.length c4],.agg #[.slice s1 m1.length t1,.slice s2 m2.length t2,.slice s3 m3.length t3,.slice s4 m4.length t4],x 0,x 1,x 2,x 3,x 4,x 5,x 6,x 7,x 8,x 9,x 10,x 11,x 12,x 13,x 14],[]⟩) (fun i=>match i with|0=>undef|1=>undef|2=>undef|3=>undef|4=>undef|5=>undef|6=>undef|7=>undef|8=>undef|9=>undef|10=>undef|11=>undef|12=>undef|13=>undef|14=>undef|_=>undef) rfl (zae (by kernel_rfl) (by kernel_rfl)) (by kernel_rfl) (by kernel_rfl) (by kernel_rfl) rfl ?_ ?_ (by intro q hq;cases hq)
  ·intro jo hj so x iw W hd hp K hK;simp only [List.mem_cons,List.not_mem_nil,or_false] at hj;rcases hj with rfl|rfl|rfl|rfl|rfl|rfl|rfl|rfl|rfl|rfl|rfl|rfl|rfl|rfl|rfl<;>refine wpOp_step (o:=_) rfl fun K' hK'=>?_<;>have HK:=hide (fun (v:Value) (W':World) h1 h2=>hK' _ _ (hK v W' h1 h2))<;>simp only [upd,Nat.reduceEqDiff,if_true,if_false] at HK
   ·have bw:=HW.out W (zaa hp.bel);obtain ⟨k0,k1,k2,k3⟩:=AtC.four bw.2.1;clear bw;go_simp;exact HK.out _ _ bR rfl
   ·have e0:x 0=.agg #[.slice s1 m1.length t1,.slice s2 m2.length t2,.slice s3 m3.length t3,.slice s4 m4.length t4]:=hp.post 0 (hd 0 mz0);have bw:=HW.out W (zaa hp.bel);simp only [e0] at HK ⊢;clear e0;go_simp;refine (CT.out W _ _ _ _ bw.2.2.2).mono ?_;rintro e w6 ⟨v,rfl,R6,B6⟩;go_simp;exact HK.out _ _ B6 R6
   ·have bw:=HW.out W (zaa hp.bel);obtain ⟨k0,k1,k2,k3⟩:=AtC.four bw.1;clear bw;go_simp;exact HK.out _ _ bR rfl
   ·have e2:x 2=.agg #[.slice a1 xs.length c1,.slice a2 ys.length c2,.slice a3 is.length c3,.slice a4 bs.length c4]:=hp.post 2 (hd 2 mz0);have bw:=HW.out W (zaa hp.bel);simp only [e2] at HK ⊢;clear e2;go_simp;refine (CU.out W bw.2.2.1).mono ?_;rintro e w6 ⟨v,rfl,R6,B6⟩;go_simp;exact HK.out _ _ B6 R6
   ·have e1:RNd W (x 1) tm:=hp.post 1 (hd 1 mz0);have e3:RNd W (x 3) td:=hp.post 3 (hd 3 mz1);go_simp;refine (CS.out W _ _ e1 e3).mono ?_;rintro e w6 ⟨rfl,B6⟩;go_simp;exact HK.out _ _ B6 rfl
   ·have e4:x 4=.bool true:=hp.post 4 (hd 4 mz0);simp only [e4] at HK ⊢;go_simp;exact HK.out _ _ bR rfl
   ·have e5:x 5=.bool true:=hp.post 5 (hd 5 mz0);have bw:=HW.out W (zaa hp.bel);obtain ⟨k0,k1,k2,k3⟩:=AtC.four bw.2.1;clear bw;simp only [e5] at HK ⊢;go_simp;exact HK.out _ _ bR rfl
   ·have e6:x 6=.agg #[.slice s1 m1.length t1,.slice s2 m2.length t2,.slice s3 m3.length t3,.slice s4 m4.length t4]:=hp.post 6 (hd 6 mz0);have e5:x 5=.bool true:=hp.post 5 (hd 5 mz1);have bw:=HW.out W (zaa hp.bel);simp only [e6,e5] at HK ⊢;clear e6 e5;go_simp;refine (CX.out W _ _ _ _ bw.2.2.2).mono ?_;rintro e w6 ⟨rfl,B6⟩;go_simp;exact HK.out _ _ B6 rfl
   ·have e5:x 5=.bool true:=hp.post 5 (hd 5 mz0);have e7:x 7=.bool false:=hp.post 7 (hd 7 mz1);simp only [e5,e7] at HK ⊢;go_simp;exact HK.out _ _ bR rfl
   ·have e8:x 8=.bool false:=hp.post 8 (hd 8 mz0);simp only [e8] at HK ⊢;go_simp;exact HK.out _ _ bR rfl
   ·have e9:x 9=.bool false:=hp.post 9 (hd 9 mz0);simp only [e9] at HK ⊢;go_simp;exact HK.out _ _ bR trivial
   ·have e9:x 9=.bool false:=hp.post 9 (hd 9 mz0);simp only [e9] at HK ⊢;go_simp;exact HK.out _ _ bR trivial
   ·have e9:x 9=.bool false:=hp.post 9 (hd 9 mz0);simp only [e9] at HK ⊢;go_simp;exact HK.out _ _ bR trivial
   ·have e9:x 9=.bool false:=hp.post 9 (hd 9 mz0);simp only [e9] at HK ⊢;go_simp;exact HK.out _ _ bR trivial
   ·have e9:x 9=.bool false:=hp.post 9 (hd 9 mz0);simp only [e9] at HK ⊢;go_simp;exact HK.out _ _ bR rfl
  ·intro x iw W hp;have e14:x 14=.bool false:=hp.post 14 (by decide);have HQ:=hide (HW.out W (zaa hp.bel)).2.2.1;simp only [e14];clear hp e14;go_wp2_with fail
   try rw [List.filterMap_nil]
   try go_wp2
   go_ret;exact ⟨rfl,HQ.out⟩
 | true =>
 refine zad (by kernel_rfl) [0,1,2,3,4,5,6,7,8,9,10,11,12,13,14] [15] [] (fun i=>match i with|0=>.const [] (.agg #[.slice s1 m1.length t1,.slice s2 m2.length t2,.slice s3 m3.length t3,.slice s4 m4.length t4])|1=>MkNd [0] tm|2=>.const [] (.agg #[.slice a1 xs.length c1,.slice a2 ys.length c2,.slice a3 is.length c3,.slice a4 bs.length c4])|3=>MkNd [2] td|4=>.const [1,3] (.bool true)|5=>.const [4] (.bool true)|6=>.const [5] (.agg #[.slice s1 m1.length t1,.slice s2 m2.length t2,.slice s3 m3.length t3,.slice s4 m4.length t4])|7=>.const [6,5] (.bool true)|8=>.const [5,7] (.bool true)|9=>.const [8] (.bool true)|10=>.const [9] (.agg #[.slice s1 m1.length t1,.slice s2 m2.length t2,.slice s3 m3.length t3,.slice s4 m4.length t4])|11=>MkDs [10,9] q1 q2 q3 q4|12=>.const [9] (.agg #[.slice s1 m1.length t1,.slice s2 m2.length t2,.slice s3 m3.length t3,.slice s4 m4.length t4])|13=>.const [11,12,9] (.bool C)|14=>.const [9,13] (.bool C)|_=>.triv) (fun x=>⟨#[.agg #[.slice a1 xs.length c1,.slice a2 ys.length c2,.slice a3 is.length c3,.slice a4 bs.length c4],.pointer (some ⟨w.heap.size,0,none⟩),.bool false,.pointer (some ⟨w1.heap.size,0,none⟩),.agg #[.slice a1 xs.length c1,.slice a2 ys.length c2,.slice a3 is.length c3,.slice a4 bs.length c4],.agg #[.slice s1 m1.length t1,.slice s2 m2.length t2,.slice s3 m3.length t3,.slice s4 m4.length t4],x 0,x 1,x 2,x 3,x 4,x 5,x 6,x 7,x 8,x 9,x 10,x 11,x 12,x 13,x 14],[]⟩) (fun i=>match i with|0=>undef|1=>undef|2=>undef|3=>undef|4=>undef|5=>undef|6=>undef|7=>undef|8=>undef|9=>undef|10=>undef|11=>undef|12=>undef|13=>undef|14=>undef|_=>undef) rfl (zae (by kernel_rfl) (by kernel_rfl)) (by kernel_rfl) (by kernel_rfl) (by kernel_rfl) rfl ?_ ?_ (by intro q hq;cases hq)
 ·intro jo hj so x iw W hd hp K hK;simp only [List.mem_cons,List.not_mem_nil,or_false] at hj;rcases hj with rfl|rfl|rfl|rfl|rfl|rfl|rfl|rfl|rfl|rfl|rfl|rfl|rfl|rfl|rfl<;>refine wpOp_step (o:=_) rfl fun K' hK'=>?_<;>have HK:=hide (fun (v:Value) (W':World) h1 h2=>hK' _ _ (hK v W' h1 h2))<;>simp only [upd,Nat.reduceEqDiff,if_true,if_false] at HK
  ·have bw:=HW.out W (zaa hp.bel);obtain ⟨k0,k1,k2,k3⟩:=AtC.four bw.2.1;clear bw;go_simp;exact HK.out _ _ bR rfl
  ·have e0:x 0=.agg #[.slice s1 m1.length t1,.slice s2 m2.length t2,.slice s3 m3.length t3,.slice s4 m4.length t4]:=hp.post 0 (hd 0 mz0);have bw:=HW.out W (zaa hp.bel);simp only [e0] at HK ⊢;clear e0;go_simp;refine (CT.out W _ _ _ _ bw.2.2.2).mono ?_;rintro e w6 ⟨v,rfl,R6,B6⟩;go_simp;exact HK.out _ _ B6 R6
  ·have bw:=HW.out W (zaa hp.bel);obtain ⟨k0,k1,k2,k3⟩:=AtC.four bw.1;clear bw;go_simp;exact HK.out _ _ bR rfl
  ·have e2:x 2=.agg #[.slice a1 xs.length c1,.slice a2 ys.length c2,.slice a3 is.length c3,.slice a4 bs.length c4]:=hp.post 2 (hd 2 mz0);have bw:=HW.out W (zaa hp.bel);simp only [e2] at HK ⊢;clear e2;go_simp;refine (CU.out W bw.2.2.1).mono ?_;rintro e w6 ⟨v,rfl,R6,B6⟩;go_simp;exact HK.out _ _ B6 R6
  ·have e1:RNd W (x 1) tm:=hp.post 1 (hd 1 mz0);have e3:RNd W (x 3) td:=hp.post 3 (hd 3 mz1);go_simp;refine (CS.out W _ _ e1 e3).mono ?_;rintro e w6 ⟨rfl,B6⟩;go_simp;exact HK.out _ _ B6 rfl
  ·have e4:x 4=.bool true:=hp.post 4 (hd 4 mz0);simp only [e4] at HK ⊢;go_simp;exact HK.out _ _ bR rfl
  ·have e5:x 5=.bool true:=hp.post 5 (hd 5 mz0);have bw:=HW.out W (zaa hp.bel);obtain ⟨k0,k1,k2,k3⟩:=AtC.four bw.2.1;clear bw;simp only [e5] at HK ⊢;go_simp;exact HK.out _ _ bR rfl
  ·have e6:x 6=.agg #[.slice s1 m1.length t1,.slice s2 m2.length t2,.slice s3 m3.length t3,.slice s4 m4.length t4]:=hp.post 6 (hd 6 mz0);have e5:x 5=.bool true:=hp.post 5 (hd 5 mz1);have bw:=HW.out W (zaa hp.bel);simp only [e6,e5] at HK ⊢;clear e6 e5;go_simp;refine (CX.out W _ _ _ _ bw.2.2.2).mono ?_;rintro e w6 ⟨rfl,B6⟩;go_simp;exact HK.out _ _ B6 rfl
  ·have e5:x 5=.bool true:=hp.post 5 (hd 5 mz0);have e7:x 7=.bool true:=hp.post 7 (hd 7 mz1);simp only [e5,e7] at HK ⊢;go_simp;exact HK.out _ _ bR rfl
  ·have e8:x 8=.bool true:=hp.post 8 (hd 8 mz0);simp only [e8] at HK ⊢;go_simp;exact HK.out _ _ bR rfl
  ·have e9:x 9=.bool true:=hp.post 9 (hd 9 mz0);have bw:=HW.out W (zaa hp.bel);obtain ⟨k0,k1,k2,k3⟩:=AtC.four bw.2.1;clear bw;simp only [e9] at HK ⊢;go_simp;exact HK.out _ _ bR rfl
  ·have e10:x 10=.agg #[.slice s1 m1.length t1,.slice s2 m2.length t2,.slice s3 m3.length t3,.slice s4 m4.length t4]:=hp.post 10 (hd 10 mz0);have e9:x 9=.bool true:=hp.post 9 (hd 9 mz1);have bw:=HW.out W (zaa hp.bel);simp only [e10,e9] at HK ⊢;clear e10 e9;go_simp;refine (CQ.out W _ _ _ _ bw.2.2.2).mono ?_;rintro e w6 ⟨x1,x2,x3,x4,rfl,R6,B6⟩;go_simp;exact HK.out _ _ B6 ⟨x1,x2,x3,x4,rfl,R6⟩
  ·have e9:x 9=.bool true:=hp.post 9 (hd 9 mz0);have bw:=HW.out W (zaa hp.bel);obtain ⟨k0,k1,k2,k3⟩:=AtC.four bw.2.1;clear bw;simp only [e9] at HK ⊢;go_simp;exact HK.out _ _ bR rfl
  ·have e11:∃ a b c d,x 11=.agg #[a,b,c,d]/\DR W a b c d q1 q2 q3 q4:=hp.post 11 (hd 11 mz0);have e12:x 12=.agg #[.slice s1 m1.length t1,.slice s2 m2.length t2,.slice s3 m3.length t3,.slice s4 m4.length t4]:=hp.post 12 (hd 12 mz1);have e9:x 9=.bool true:=hp.post 9 (hd 9 mz2);have bw:=HW.out W (zaa hp.bel);obtain ⟨x1,x2,x3,x4,e11,R11⟩:=e11;simp only [e11,e12,e9] at HK ⊢;clear e11 e12 e9;go_simp;refine (CD.out W _ _ _ _ _ _ _ _ R11 bw.2.2.2).mono ?_;rintro e w6 ⟨rfl,B6⟩;go_simp;exact HK.out _ _ B6 rfl
  ·have e9:x 9=.bool true:=hp.post 9 (hd 9 mz0);have e13:x 13=.bool C:=hp.post 13 (hd 13 mz1);simp only [e9,e13] at HK ⊢;go_simp;exact HK.out _ _ bR rfl
 ·intro x iw W hp;have e14:x 14=.bool C:=hp.post 14 (by decide);have HQ:=hide (HW.out W (zaa hp.bel)).2.2.1;simp only [e14];clear hp e14;go_wp2_with fail
  try rw [List.filterMap_nil]
  try go_wp2
  go_ret;exact ⟨by cases C<;>rfl,HQ.out⟩
theorem zhe {a1 a2 a3 a4:Option Addr}{c1 c2 c3 c4:Nat}{xs ys m1 m2 q1 q2:List Bool}{is m3 q3:List Ino}{bs m4 q4:List Blk}{tm td:List Nd}{A B C:Bool}(w:World)
  (CM0:∀ W,Below w.heap.size w W->Calls Tryz.prog 20 #[.agg #[.slice a1 xs.length c1,.slice a2 ys.length c2,.slice a3 is.length c3,.slice a4 bs.length c4]] W fun e w'=>∃ a b c d,e=.returned (.agg #[a,b,c,d])/\DR w' a b c d m1 m2 m3 m4/\Below W.heap.size W w')
  (CQ0:∀ W a b c d,DR W a b c d m1 m2 m3 m4->Calls Tryz.prog 20 #[.agg #[a,b,c,d]] W fun e w'=>∃ a b c d,e=.returned (.agg #[a,b,c,d])/\DR w' a b c d q1 q2 q3 q4/\Below W.heap.size W w')
  (CT0:∀ W a b c d,DR W a b c d m1 m2 m3 m4->Calls Tryz.prog 22 #[.agg #[a,b,c,d]] W fun e w'=>∃ t,e=.returned t/\RNd w' t tm/\Below W.heap.size W w')
  (CU0:∀ W,Below w.heap.size w W->Calls Tryz.prog 22 #[.agg #[.slice a1 xs.length c1,.slice a2 ys.length c2,.slice a3 is.length c3,.slice a4 bs.length c4]] W fun e w'=>∃ t,e=.returned t/\RNd w' t td/\Below W.heap.size W w')
  (CS0:∀ W s t,RNd W s tm->RNd W t td->Calls Tryz.prog 21 #[s,t] W fun e w'=>e=.returned (.bool A)/\Below W.heap.size W w')
  (CX0:∀ W a b c d,DR W a b c d m1 m2 m3 m4->Calls Tryz.prog 23 #[.agg #[a,b,c,d]] W fun e w'=>e=.returned (.bool B)/\Below W.heap.size W w')
  (CD0:∀ W a b c d a' b' c' d',DR W a b c d q1 q2 q3 q4->DR W a' b' c' d' m1 m2 m3 m4->Calls Tryz.prog 24 #[.agg #[a,b,c,d],.agg #[a',b',c',d']] W fun e w'=>e=.returned (.bool C)/\Below W.heap.size W w') :
  Calls Tryz.prog 7 #[.agg #[.slice a1 xs.length c1,.slice a2 ys.length c2,.slice a3 is.length c3,.slice a4 bs.length c4]] w fun e w'=>e=.returned (.bool (A && B && C))/\Below w.heap.size w w':=by
 have CM:=hide CM0;have CQ:=hide CQ0;have CT:=hide CT0;have CU:=hide CU0;have CS:=hide CS0;have CX:=hide CX0;have CD:=hide CD0;clear CM0 CQ0 CT0 CU0 CS0 CX0 CD0;have HB0:Hid (Below w.heap.size w (w.alloc (.cells #[.slice a1 xs.length c1,.slice a2 ys.length c2,.slice a3 is.length c3,.slice a4 bs.length c4] 35))):=(Below.refl _ w).alloc nR _;have HA0:=hide (AtC.new w 35 #[.slice a1 xs.length c1,.slice a2 ys.length c2,.slice a3 is.length c3,.slice a4 bs.length c4]);go_enter Tryz.func7,Tryz.ntmps7
 go_wp2_with fail
 refine (CM.out _ HB0.out).mono ?_;rintro e w1 ⟨d1,d2,d3,d4,rfl,R1,B1⟩;obtain ⟨s1,t1,s2,t2,s3,t3,s4,t4,rfl,rfl,rfl,rfl⟩:=R1.form;have HW1:Hid (AtC w1 w.heap.size 35 #[.slice a1 xs.length c1,.slice a2 ys.length c2,.slice a3 is.length c3,.slice a4 bs.length c4]/\Below w.heap.size w w1/\DR w1 (.slice s1 m1.length t1) (.slice s2 m2.length t2) (.slice s3 m3.length t3) (.slice s4 m4.length t4) m1 m2 m3 m4):=⟨HA0.out.over B1,HB0.out.trans (B1.mono HB0.out.size),R1⟩
 clear R1 B1 HB0 HA0;go_upto_region 2 with fail
 have HW:Hid (∀ W,Below (w1.alloc (.cells #[.slice s1 m1.length t1,.slice s2 m2.length t2,.slice s3 m3.length t3,.slice s4 m4.length t4] 35)).heap.size (w1.alloc (.cells #[.slice s1 m1.length t1,.slice s2 m2.length t2,.slice s3 m3.length t3,.slice s4 m4.length t4] 35)) W->AtC W w.heap.size 35 #[.slice a1 xs.length c1,.slice a2 ys.length c2,.slice a3 is.length c3,.slice a4 bs.length c4]/\AtC W w1.heap.size 35 #[.slice s1 m1.length t1,.slice s2 m2.length t2,.slice s3 m3.length t3,.slice s4 m4.length t4]/\Below w.heap.size w W/\DR W (.slice s1 m1.length t1) (.slice s2 m2.length t2) (.slice s3 m3.length t3) (.slice s4 m4.length t4) m1 m2 m3 m4):=by
  obtain ⟨h1,h2,h3⟩:=HW1.out;intro W b;have hs:=h2.size;have ba:Below w1.heap.size w1 (w1.alloc (.cells #[.slice s1 m1.length t1,.slice s2 m2.length t2,.slice s3 m3.length t3,.slice s4 m4.length t4] 35)):=(((Below.refl _ w1).alloc nR _))
  have bb:=ba.trans (b.mono ba.size);exact ⟨h1.over bb,(AtC.new w1 35 _:AtC (w1.alloc (.cells #[.slice s1 m1.length t1,.slice s2 m2.length t2,.slice s3 m3.length t3,.slice s4 m4.length t4] 35)) w1.heap.size 35 #[.slice s1 m1.length t1,.slice s2 m2.length t2,.slice s3 m3.length t3,.slice s4 m4.length t4]).over b,h2.trans (bb.mono hs),h3.below bb nR⟩
 clear HW1
 cases A with
 | false =>
  refine zad (by kernel_rfl) [0,1,2,3,4,5,6,7,8,9,10,11,12,13,14] [15] [] (fun i=>match i with|0=>.const [] (.agg #[.slice s1 m1.length t1,.slice s2 m2.length t2,.slice s3 m3.length t3,.slice s4 m4.length t4])|1=>MkNd [0] tm|2=>.const [] (.agg #[.slice a1 xs.length c1,.slice a2 ys.length c2,.slice a3 is.length c3,.slice a4 bs.length c4])|3=>MkNd [2] td|4=>.const [1,3] (.bool false)|5=>.const [4] (.bool false)|6=>.val [5] (fun _ _ _ _=>True) (fun _ _ _ _ _ _ _=>trivial)|7=>.val [5] (fun _ _ _ _=>True) (fun _ _ _ _ _ _ _=>trivial)|8=>.const [5] (.bool false)|9=>.const [8] (.bool false)|10=>.val [9] (fun _ _ _ _=>True) (fun _ _ _ _ _ _ _=>trivial)|11=>.val [9] (fun _ _ _ _=>True) (fun _ _ _ _ _ _ _=>trivial)|12=>.val [9] (fun _ _ _ _=>True) (fun _ _ _ _ _ _ _=>trivial)|13=>.val [9] (fun _ _ _ _=>True) (fun _ _ _ _ _ _ _=>trivial)|14=>.const [9] (.bool false)|_=>.triv) (fun x=>⟨#[.agg #[.slice a1 xs.length c1,.slice a2 ys.length c2,.slice a3 is.length c3,.slice a4 bs.length c4],.pointer (some ⟨w.heap.size,0,none⟩),.bool false,.pointer (some ⟨w1.heap.size,0,none⟩),.agg #[.slice a1 xs.length c1,.slice a2 ys.length c2,.slice a3 is.length c3,.slice a4 bs.length c4],.agg #[.slice s1 m1.length t1,.slice s2 m2.length t2,.slice s3 m3.length t3,.slice s4 m4.length t4],x 0,x 1,x 2,x 3,x 4,x 5,x 6,x 7,x 8,x 9,x 10,x 11,x 12,x 13,x 14],[]⟩) (fun i=>match i with|0=>undef|1=>undef|2=>undef|3=>undef|4=>undef|5=>undef|6=>undef|7=>undef|8=>undef|9=>undef|10=>undef|11=>undef|12=>undef|13=>undef|14=>undef|_=>undef) rfl (zae (by kernel_rfl) (by kernel_rfl)) (by kernel_rfl) (by kernel_rfl) (by kernel_rfl) rfl ?_ ?_ (by intro q hq;cases hq)
  ·intro jo hj so x iw W hd hp K hK;simp only [List.mem_cons,List.not_mem_nil,or_false] at hj;rcases hj with rfl|rfl|rfl|rfl|rfl|rfl|rfl|rfl|rfl|rfl|rfl|rfl|rfl|rfl|rfl<;>refine wpOp_step (o:=_) rfl fun K' hK'=>?_<;>have HK:=hide (fun (v:Value) (W':World) h1 h2=>hK' _ _ (hK v W' h1 h2))<;>simp only [upd,Nat.reduceEqDiff,if_true,if_false] at HK
   ·have bw:=HW.out W (zaa hp.bel);obtain ⟨k0,k1,k2,k3⟩:=AtC.four bw.2.1;clear bw;go_simp;exact HK.out _ _ bR rfl
   ·have e0:x 0=.agg #[.slice s1 m1.length t1,.slice s2 m2.length t2,.slice s3 m3.length t3,.slice s4 m4.length t4]:=hp.post 0 (hd 0 mz0);have bw:=HW.out W (zaa hp.bel);simp only [e0] at HK ⊢;clear e0;go_simp;refine (CT.out W _ _ _ _ bw.2.2.2).mono ?_;rintro e w6 ⟨v,rfl,R6,B6⟩;go_simp;exact HK.out _ _ B6 R6
   ·have bw:=HW.out W (zaa hp.bel);obtain ⟨k0,k1,k2,k3⟩:=AtC.four bw.1;clear bw;go_simp;exact HK.out _ _ bR rfl
   ·have e2:x 2=.agg #[.slice a1 xs.length c1,.slice a2 ys.length c2,.slice a3 is.length c3,.slice a4 bs.length c4]:=hp.post 2 (hd 2 mz0);have bw:=HW.out W (zaa hp.bel);simp only [e2] at HK ⊢;clear e2;go_simp;refine (CU.out W bw.2.2.1).mono ?_;rintro e w6 ⟨v,rfl,R6,B6⟩;go_simp;exact HK.out _ _ B6 R6
   ·have e1:RNd W (x 1) tm:=hp.post 1 (hd 1 mz0);have e3:RNd W (x 3) td:=hp.post 3 (hd 3 mz1);go_simp;refine (CS.out W _ _ e1 e3).mono ?_;rintro e w6 ⟨rfl,B6⟩;go_simp;exact HK.out _ _ B6 rfl
   ·have e4:x 4=.bool false:=hp.post 4 (hd 4 mz0);simp only [e4] at HK ⊢;go_simp;exact HK.out _ _ bR rfl
   ·have e5:x 5=.bool false:=hp.post 5 (hd 5 mz0);simp only [e5] at HK ⊢;go_simp;exact HK.out _ _ bR trivial
   ·have e5:x 5=.bool false:=hp.post 5 (hd 5 mz0);simp only [e5] at HK ⊢;go_simp;exact HK.out _ _ bR trivial
   ·have e5:x 5=.bool false:=hp.post 5 (hd 5 mz0);simp only [e5] at HK ⊢;go_simp;exact HK.out _ _ bR rfl
   ·have e8:x 8=.bool false:=hp.post 8 (hd 8 mz0);simp only [e8] at HK ⊢;go_simp;exact HK.out _ _ bR rfl
   ·have e9:x 9=.bool false:=hp.post 9 (hd 9 mz0);simp only [e9] at HK ⊢;go_simp;exact HK.out _ _ bR trivial
   ·have e9:x 9=.bool false:=hp.post 9 (hd 9 mz0);simp only [e9] at HK ⊢;go_simp;exact HK.out _ _ bR trivial
   ·have e9:x 9=.bool false:=hp.post 9 (hd 9 mz0);simp only [e9] at HK ⊢;go_simp;exact HK.out _ _ bR trivial
   ·have e9:x 9=.bool false:=hp.post 9 (hd 9 mz0);simp only [e9] at HK ⊢;go_simp;exact HK.out _ _ bR trivial
   ·have e9:x 9=.bool false:=hp.post 9 (hd 9 mz0);simp only [e9] at HK ⊢;go_simp;exact HK.out _ _ bR rfl
  ·intro x iw W hp;have e14:x 14=.bool false:=hp.post 14 (by decide);have HQ:=hide (HW.out W (zaa hp.bel)).2.2.1;simp only [e14];clear hp e14;go_wp2_with fail
   try rw [List.filterMap_nil]
   try go_wp2
   go_ret;exact ⟨rfl,HQ.out⟩
 | true =>
 cases B with
 | false =>
  refine zad (by kernel_rfl) [0,1,2,3,4,5,6,7,8,9,10,11,12,13,14] [15] [] (fun i=>match i with|0=>.const [] (.agg #[.slice s1 m1.length t1,.slice s2 m2.length t2,.slice s3 m3.length t3,.slice s4 m4.length t4])|1=>MkNd [0] tm|2=>.const [] (.agg #[.slice a1 xs.length c1,.slice a2 ys.length c2,.slice a3 is.length c3,.slice a4 bs.length c4])|3=>MkNd [2] td|4=>.const [1,3] (.bool true)|5=>.const [4] (.bool true)|6=>.const [5] (.agg #[.slice s1 m1.length t1,.slice s2 m2.length t2,.slice s3 m3.length t3,.slice s4 m4.length t4])|7=>.const [6,5] (.bool false)|8=>.const [5,7] (.bool false)|9=>.const [8] (.bool false)|10=>.val [9] (fun _ _ _ _=>True) (fun _ _ _ _ _ _ _=>trivial)|11=>.val [9] (fun _ _ _ _=>True) (fun _ _ _ _ _ _ _=>trivial)|12=>.val [9] (fun _ _ _ _=>True) (fun _ _ _ _ _ _ _=>trivial)|13=>.val [9] (fun _ _ _ _=>True) (fun _ _ _ _ _ _ _=>trivial)|14=>.const [9] (.bool false)|_=>.triv) (fun x=>⟨#[.agg #[.slice a1 xs.length c1,.slice a2 ys.length c2,.slice a3 is.length c3,.slice a4 bs.length c4],.pointer (some ⟨w.heap.size,0,none⟩),.bool false,.pointer (some ⟨w1.heap.size,0,none⟩),.agg #[.slice a1 xs.length c1,.slice a2 ys.length c2,.slice a3 is.length c3,.slice a4 bs.length c4],.agg #[.slice s1 m1.length t1,.slice s2 m2.length t2,.slice s3 m3.length t3,.slice s4 m4.length t4],x 0,x 1,x 2,x 3,x 4,x 5,x 6,x 7,x 8,x 9,x 10,x 11,x 12,x 13,x 14],[]⟩) (fun i=>match i with|0=>undef|1=>undef|2=>undef|3=>undef|4=>undef|5=>undef|6=>undef|7=>undef|8=>undef|9=>undef|10=>undef|11=>undef|12=>undef|13=>undef|14=>undef|_=>undef) rfl (zae (by kernel_rfl) (by kernel_rfl)) (by kernel_rfl) (by kernel_rfl) (by kernel_rfl) rfl ?_ ?_ (by intro q hq;cases hq)
  ·intro jo hj so x iw W hd hp K hK;simp only [List.mem_cons,List.not_mem_nil,or_false] at hj;rcases hj with rfl|rfl|rfl|rfl|rfl|rfl|rfl|rfl|rfl|rfl|rfl|rfl|rfl|rfl|rfl<;>refine wpOp_step (o:=_) rfl fun K' hK'=>?_<;>have HK:=hide (fun (v:Value) (W':World) h1 h2=>hK' _ _ (hK v W' h1 h2))<;>simp only [upd,Nat.reduceEqDiff,if_true,if_false] at HK
   ·have bw:=HW.out W (zaa hp.bel);obtain ⟨k0,k1,k2,k3⟩:=AtC.four bw.2.1;clear bw;go_simp;exact HK.out _ _ bR rfl
   ·have e0:x 0=.agg #[.slice s1 m1.length t1,.slice s2 m2.length t2,.slice s3 m3.length t3,.slice s4 m4.length t4]:=hp.post 0 (hd 0 mz0);have bw:=HW.out W (zaa hp.bel);simp only [e0] at HK ⊢;clear e0;go_simp;refine (CT.out W _ _ _ _ bw.2.2.2).mono ?_;rintro e w6 ⟨v,rfl,R6,B6⟩;go_simp;exact HK.out _ _ B6 R6
   ·have bw:=HW.out W (zaa hp.bel);obtain ⟨k0,k1,k2,k3⟩:=AtC.four bw.1;clear bw;go_simp;exact HK.out _ _ bR rfl
   ·have e2:x 2=.agg #[.slice a1 xs.length c1,.slice a2 ys.length c2,.slice a3 is.length c3,.slice a4 bs.length c4]:=hp.post 2 (hd 2 mz0);have bw:=HW.out W (zaa hp.bel);simp only [e2] at HK ⊢;clear e2;go_simp;refine (CU.out W bw.2.2.1).mono ?_;rintro e w6 ⟨v,rfl,R6,B6⟩;go_simp;exact HK.out _ _ B6 R6
   ·have e1:RNd W (x 1) tm:=hp.post 1 (hd 1 mz0);have e3:RNd W (x 3) td:=hp.post 3 (hd 3 mz1);go_simp;refine (CS.out W _ _ e1 e3).mono ?_;rintro e w6 ⟨rfl,B6⟩;go_simp;exact HK.out _ _ B6 rfl
   ·have e4:x 4=.bool true:=hp.post 4 (hd 4 mz0);simp only [e4] at HK ⊢;go_simp;exact HK.out _ _ bR rfl
   ·have e5:x 5=.bool true:=hp.post 5 (hd 5 mz0);have bw:=HW.out W (zaa hp.bel);obtain ⟨k0,k1,k2,k3⟩:=AtC.four bw.2.1;clear bw;simp only [e5] at HK ⊢;go_simp;exact HK.out _ _ bR rfl
   ·have e6:x 6=.agg #[.slice s1 m1.length t1,.slice s2 m2.length t2,.slice s3 m3.length t3,.slice s4 m4.length t4]:=hp.post 6 (hd 6 mz0);have e5:x 5=.bool true:=hp.post 5 (hd 5 mz1);have bw:=HW.out W (zaa hp.bel);simp only [e6,e5] at HK ⊢;clear e6 e5;go_simp;refine (CX.out W _ _ _ _ bw.2.2.2).mono ?_;rintro e w6 ⟨rfl,B6⟩;go_simp;exact HK.out _ _ B6 rfl
   ·have e5:x 5=.bool true:=hp.post 5 (hd 5 mz0);have e7:x 7=.bool false:=hp.post 7 (hd 7 mz1);simp only [e5,e7] at HK ⊢;go_simp;exact HK.out _ _ bR rfl
   ·have e8:x 8=.bool false:=hp.post 8 (hd 8 mz0);simp only [e8] at HK ⊢;go_simp;exact HK.out _ _ bR rfl
   ·have e9:x 9=.bool false:=hp.post 9 (hd 9 mz0);simp only [e9] at HK ⊢;go_simp;exact HK.out _ _ bR trivial
   ·have e9:x 9=.bool false:=hp.post 9 (hd 9 mz0);simp only [e9] at HK ⊢;go_simp;exact HK.out _ _ bR trivial
   ·have e9:x 9=.bool false:=hp.post 9 (hd 9 mz0);simp only [e9] at HK ⊢;go_simp;exact HK.out _ _ bR trivial
   ·have e9:x 9=.bool false:=hp.post 9 (hd 9 mz0);simp only [e9] at HK ⊢;go_simp;exact HK.out _ _ bR trivial
   ·have e9:x 9=.bool false:=hp.post 9 (hd 9 mz0);simp only [e9] at HK ⊢;go_simp;exact HK.out _ _ bR rfl
  ·intro x iw W hp;have e14:x 14=.bool false:=hp.post 14 (by decide);have HQ:=hide (HW.out W (zaa hp.bel)).2.2.1;simp only [e14];clear hp e14;go_wp2_with fail
   try rw [List.filterMap_nil]
   try go_wp2
   go_ret;exact ⟨rfl,HQ.out⟩
 | true =>
 refine zad (by kernel_rfl) [0,1,2,3,4,5,6,7,8,9,10,11,12,13,14] [15] [] (fun i=>match i with|0=>.const [] (.agg #[.slice s1 m1.length t1,.slice s2 m2.length t2,.slice s3 m3.length t3,.slice s4 m4.length t4])|1=>MkNd [0] tm|2=>.const [] (.agg #[.slice a1 xs.length c1,.slice a2 ys.length c2,.slice a3 is.length c3,.slice a4 bs.length c4])|3=>MkNd [2] td|4=>.const [1,3] (.bool true)|5=>.const [4] (.bool true)|6=>.const [5] (.agg #[.slice s1 m1.length t1,.slice s2 m2.length t2,.slice s3 m3.length t3,.slice s4 m4.length t4])|7=>.const [6,5] (.bool true)|8=>.const [5,7] (.bool true)|9=>.const [8] (.bool true)|10=>.const [9] (.agg #[.slice s1 m1.length t1,.slice s2 m2.length t2,.slice s3 m3.length t3,.slice s4 m4.length t4])|11=>MkDs [10,9] q1 q2 q3 q4|12=>.const [9] (.agg #[.slice s1 m1.length t1,.slice s2 m2.length t2,.slice s3 m3.length t3,.slice s4 m4.length t4])|13=>.const [11,12,9] (.bool C)|14=>.const [9,13] (.bool C)|_=>.triv) (fun x=>⟨#[.agg #[.slice a1 xs.length c1,.slice a2 ys.length c2,.slice a3 is.length c3,.slice a4 bs.length c4],.pointer (some ⟨w.heap.size,0,none⟩),.bool false,.pointer (some ⟨w1.heap.size,0,none⟩),.agg #[.slice a1 xs.length c1,.slice a2 ys.length c2,.slice a3 is.length c3,.slice a4 bs.length c4],.agg #[.slice s1 m1.length t1,.slice s2 m2.length t2,.slice s3 m3.length t3,.slice s4 m4.length t4],x 0,x 1,x 2,x 3,x 4,x 5,x 6,x 7,x 8,x 9,x 10,x 11,x 12,x 13,x 14],[]⟩) (fun i=>match i with|0=>undef|1=>undef|2=>undef|3=>undef|4=>undef|5=>undef|6=>undef|7=>undef|8=>undef|9=>undef|10=>undef|11=>undef|12=>undef|13=>undef|14=>undef|_=>undef) rfl (zae (by kernel_rfl) (by kernel_rfl)) (by kernel_rfl) (by kernel_rfl) (by kernel_rfl) rfl ?_ ?_ (by intro q hq;cases hq)
 ·intro jo hj so x iw W hd hp K hK;simp only [List.mem_cons,List.not_mem_nil,or_false] at hj;rcases hj with rfl|rfl|rfl|rfl|rfl|rfl|rfl|rfl|rfl|rfl|rfl|rfl|rfl|rfl|rfl<;>refine wpOp_step (o:=_) rfl fun K' hK'=>?_<;>have HK:=hide (fun (v:Value) (W':World) h1 h2=>hK' _ _ (hK v W' h1 h2))<;>simp only [upd,Nat.reduceEqDiff,if_true,if_false] at HK
  ·have bw:=HW.out W (zaa hp.bel);obtain ⟨k0,k1,k2,k3⟩:=AtC.four bw.2.1;clear bw;go_simp;exact HK.out _ _ bR rfl
  ·have e0:x 0=.agg #[.slice s1 m1.length t1,.slice s2 m2.length t2,.slice s3 m3.length t3,.slice s4 m4.length t4]:=hp.post 0 (hd 0 mz0);have bw:=HW.out W (zaa hp.bel);simp only [e0] at HK ⊢;clear e0;go_simp;refine (CT.out W _ _ _ _ bw.2.2.2).mono ?_;rintro e w6 ⟨v,rfl,R6,B6⟩;go_simp;exact HK.out _ _ B6 R6
  ·have bw:=HW.out W (zaa hp.bel);obtain ⟨k0,k1,k2,k3⟩:=AtC.four bw.1;clear bw;go_simp;exact HK.out _ _ bR rfl
  ·have e2:x 2=.agg #[.slice a1 xs.length c1,.slice a2 ys.length c2,.slice a3 is.length c3,.slice a4 bs.length c4]:=hp.post 2 (hd 2 mz0);have bw:=HW.out W (zaa hp.bel);simp only [e2] at HK ⊢;clear e2;go_simp;refine (CU.out W bw.2.2.1).mono ?_;rintro e w6 ⟨v,rfl,R6,B6⟩;go_simp;exact HK.out _ _ B6 R6
  ·have e1:RNd W (x 1) tm:=hp.post 1 (hd 1 mz0);have e3:RNd W (x 3) td:=hp.post 3 (hd 3 mz1);go_simp;refine (CS.out W _ _ e1 e3).mono ?_;rintro e w6 ⟨rfl,B6⟩;go_simp;exact HK.out _ _ B6 rfl
  ·have e4:x 4=.bool true:=hp.post 4 (hd 4 mz0);simp only [e4] at HK ⊢;go_simp;exact HK.out _ _ bR rfl
  ·have e5:x 5=.bool true:=hp.post 5 (hd 5 mz0);have bw:=HW.out W (zaa hp.bel);obtain ⟨k0,k1,k2,k3⟩:=AtC.four bw.2.1;clear bw;simp only [e5] at HK ⊢;go_simp;exact HK.out _ _ bR rfl
  ·have e6:x 6=.agg #[.slice s1 m1.length t1,.slice s2 m2.length t2,.slice s3 m3.length t3,.slice s4 m4.length t4]:=hp.post 6 (hd 6 mz0);have e5:x 5=.bool true:=hp.post 5 (hd 5 mz1);have bw:=HW.out W (zaa hp.bel);simp only [e6,e5] at HK ⊢;clear e6 e5;go_simp;refine (CX.out W _ _ _ _ bw.2.2.2).mono ?_;rintro e w6 ⟨rfl,B6⟩;go_simp;exact HK.out _ _ B6 rfl
  ·have e5:x 5=.bool true:=hp.post 5 (hd 5 mz0);have e7:x 7=.bool true:=hp.post 7 (hd 7 mz1);simp only [e5,e7] at HK ⊢;go_simp;exact HK.out _ _ bR rfl
  ·have e8:x 8=.bool true:=hp.post 8 (hd 8 mz0);simp only [e8] at HK ⊢;go_simp;exact HK.out _ _ bR rfl
  ·have e9:x 9=.bool true:=hp.post 9 (hd 9 mz0);have bw:=HW.out W (zaa hp.bel);obtain ⟨k0,k1,k2,k3⟩:=AtC.four bw.2.1;clear bw;simp only [e9] at HK ⊢;go_simp;exact HK.out _ _ bR rfl
  ·have e10:x 10=.agg #[.slice s1 m1.length t1,.slice s2 m2.length t2,.slice s3 m3.length t3,.slice s4 m4.length t4]:=hp.post 10 (hd 10 mz0);have e9:x 9=.bool true:=hp.post 9 (hd 9 mz1);have bw:=HW.out W (zaa hp.bel);simp only [e10,e9] at HK ⊢;clear e10 e9;go_simp;refine (CQ.out W _ _ _ _ bw.2.2.2).mono ?_;rintro e w6 ⟨x1,x2,x3,x4,rfl,R6,B6⟩;go_simp;exact HK.out _ _ B6 ⟨x1,x2,x3,x4,rfl,R6⟩
  ·have e9:x 9=.bool true:=hp.post 9 (hd 9 mz0);have bw:=HW.out W (zaa hp.bel);obtain ⟨k0,k1,k2,k3⟩:=AtC.four bw.2.1;clear bw;simp only [e9] at HK ⊢;go_simp;exact HK.out _ _ bR rfl
  ·have e11:∃ a b c d,x 11=.agg #[a,b,c,d]/\DR W a b c d q1 q2 q3 q4:=hp.post 11 (hd 11 mz0);have e12:x 12=.agg #[.slice s1 m1.length t1,.slice s2 m2.length t2,.slice s3 m3.length t3,.slice s4 m4.length t4]:=hp.post 12 (hd 12 mz1);have e9:x 9=.bool true:=hp.post 9 (hd 9 mz2);have bw:=HW.out W (zaa hp.bel);obtain ⟨x1,x2,x3,x4,e11,R11⟩:=e11;simp only [e11,e12,e9] at HK ⊢;clear e11 e12 e9;go_simp;refine (CD.out W _ _ _ _ _ _ _ _ R11 bw.2.2.2).mono ?_;rintro e w6 ⟨rfl,B6⟩;go_simp;exact HK.out _ _ B6 rfl
  ·have e9:x 9=.bool true:=hp.post 9 (hd 9 mz0);have e13:x 13=.bool C:=hp.post 13 (hd 13 mz1);simp only [e9,e13] at HK ⊢;go_simp;exact HK.out _ _ bR rfl
 ·intro x iw W hp;have e14:x 14=.bool C:=hp.post 14 (by decide);have HQ:=hide (HW.out W (zaa hp.bel)).2.2.1;simp only [e14];clear hp e14;go_wp2_with fail
  try rw [List.filterMap_nil]
  try go_wp2
  go_ret;exact ⟨by cases C<;>rfl,HQ.out⟩
theorem za9 {α β:Type}{f:α->List β}{m:Nat}:∀ (l:List α),(∀ x∈l,(f x).length<=m)->(l.flatMap f).length<=l.length * m
 | [],_=>by simp
 | x :: r,h=>by
  have h1:=h x (by simp);have h2:=za9 r (fun y hy=>h y (by simp [hy]));rw [List.flatMap_cons,List.length_append,List.length_cons,Nat.add_mul];omega
structure RD (is:List Ino) (bs:List Blk):Prop where
 hi:is.length=8
 hb:bs.length=16
 kd:∀ q∈is,q.1=0\/q.1=1\/q.1=2
 two:∀ q∈is,q.2.2.length=2
 four:∀ q∈bs,q.2.1.length<=4
 text:∀ q∈bs,q.1=false->q.2.1=[]
 nm:∀ q∈bs,∀ s∈q.2.1,s.1=⟨#[]⟩\/zbe s.1=true
 tx:∀ q∈bs,q.2.2.size<=16
theorem zbr (bs:List Blk)(x:Int):blkAt bs x=(false,[],⟨#[]⟩)\/blkAt bs x∈bs:=by
 cases h:inB x 1 bs.length with
 | false=>exact .inl (zg8 h)
 | true =>
  obtain ⟨jb,hb,-,e⟩:=ze1 h;exact .inr (by rw [e];exact List.getElem_mem hb)
theorem zbj {is:List Ino}(i:Int):(zab is i=0/\zak is i=[])\/∃ q∈is,zab is i=q.1/\zak is i=q.2.2:=by
 cases h:inB i 1 is.length with
 | false=>exact .inl ⟨zaz h,by unfold zak;rw [h];rfl⟩
 | true =>
  obtain ⟨h1,h2⟩:=zao h;obtain ⟨j,rfl⟩:∃ j:Nat,i=(j:Int)+1:=⟨(i - 1).toNat,by omega⟩
  have hj:j < is.length:=by omega
  exact .inr ⟨is[j],List.getElem_mem hj,(zai hj).1,(zai hj).2⟩
theorem RD.kind {is:List Ino}{bs:List Blk}(h:RD is bs)(i:Int):zab is i=0\/zab is i=1\/zab is i=2:=by
 rcases zbj (is:=is) i with ⟨e,-⟩ | ⟨q,hq,e,-⟩
 ·exact .inl e
 ·rw [e];exact h.kd q hq
theorem RD.blk4 {is:List Ino}{bs:List Blk}(h:RD is bs)(x:Int):(blkAt bs x).2.1.length<=4:=by
 rcases zbr bs x with e | e
 ·rw [e];simp
 ·exact h.four _ e
theorem nmd_len {is:List Ino}{bs:List Blk}(h:RD is bs)(x:Int):(nmd (blkAt bs x)).length<=4:=by
 unfold nmd
 split
 ·exact Nat.le_trans (List.length_filter_le _ _) (h.blk4 x)
 ·simp
theorem RD.named8 {is:List Ino}{bs:List Blk}(h:RD is bs)(i:Int):(named is bs i).length<=8:=by
 unfold named
 split
 ·have h1:=za9 (m:=4) (f:=fun p=>nmd (blkAt bs p)) (zak is i) (fun p _=>nmd_len h p);have h2:(zak is i).length<=2:=by
   rcases zbj (is:=is) i with ⟨-,e⟩ | ⟨q,hq,-,e⟩
   ·rw [e];simp
   ·rw [e,h.two q hq];exact Nat.le_refl _
  have:nmdP bs (zak is i)=(zak is i).flatMap (fun p=>nmd (blkAt bs p)):=rfl;rw [this];have:(zak is i).length * 4<=2 * 4:=Nat.mul_le_mul_right _ h2;omega
 ·simp
theorem RD.name {is:List Ino}{bs:List Blk}(h:RD is bs){i:Int}{s:Sl}(hs:s∈named is bs i):zbe s.1=true:=by
 unfold named at hs
 split at hs
 ·obtain ⟨p,-,hp⟩:=List.mem_flatMap.1 hs;unfold nmd at hp
  split at hp
  ·obtain ⟨h1,h2⟩:=zg7 hp;rcases zbr bs p with e | e
   ·rw [e] at h1;simp at h1
   ·exact (h.nm _ e s h1).resolve_left h2
  ·simp at hp
 ·simp at hs
theorem zb6 {s:ByteArray}(h:zbe s=true):1<=s.size/\s.size<=6:=(of_decide_eq_true h).1
theorem zdm (u v iv bv:Value)(xs ys:List Bool)(is:List Ino)(bs:List Blk)(w:World)(h:DR w u v iv bv xs ys is bs)(hi:is.length<=1048576)(hk:bs.length<=1048576) :
  Calls Tryz.prog 48 #[.agg #[u,v,iv,bv]] w fun e w'=>e=.returned (.bool (zag xs ys is bs))/\Below w.heap.size w w':=by
 have H:=hide h;obtain ⟨a1,c1,a2,c2,a3,c3,a4,c4,rfl,rfl,rfl,rfl⟩:=h.form;obtain ⟨x,hx⟩:∃ x,okB xs.length ys.length=x:=⟨_,rfl⟩
 obtain ⟨y,hy⟩:∃ y,(zdp is && decide (is.length=8))=y:=⟨_,rfl⟩
 obtain ⟨z,hz⟩:∃ z,(zdq bs && decide (bs.length=16))=z:=⟨_,rfl⟩
 have hD:zag xs ys is bs=(x && y && z):=by unfold zag;rw [hx,hy,hz]
 rw [hD];have HX:=hide hx;have HY:=hide hy;have HZ:=hide hz;clear h hx hy hz hD;go_enter Tryz.func48,Tryz.ntmps48
 go_wp2_with fail
 refine (zjw _ _ _ _ _ _ _).mono ?_;rw [HX.out];rintro e w1 ⟨rfl,B1⟩;have BW:Below w.heap.size w w1:=((Below.refl _ w).alloc nR _).trans (B1.mono (by simp));have K0:AtC w1 w.heap.size 35 #[.slice a1 xs.length c1,.slice a2 ys.length c2,.slice a3 is.length c3,.slice a4 bs.length c4]:=(AtC.new w 35 _).over B1;have p2:w1.cell? ⟨w.heap.size,2,none⟩=some (.slice a3 is.length c3):=K0.cell 2;have HBW:=hide BW;have HK0:=hide K0;clear B1 BW K0
 cases x with
 | false =>
  go_wp2;go_ret;exact ⟨rfl,HBW.out⟩
 | true =>
  go_wp2_with fail
  refine (zg5 _ is _ (H.out.i.below HBW.out nR) hi).mono ?_;rw [HY.out];rintro e w2 ⟨rfl,B2⟩;have BW2:=HBW.out.trans (B2.mono HBW.out.size);have K0:=HK0.out.over B2;have p3:w2.cell? ⟨w.heap.size,3,none⟩=some (.slice a4 bs.length c4):=K0.cell 3;have HBW2:=hide BW2;clear B2 BW2 K0 HBW
  cases y with
  | false =>
   go_wp2;go_ret;exact ⟨rfl,HBW2.out⟩
  | true =>
   go_wp2_with fail
   refine (zg6 _ bs _ (H.out.k.below HBW2.out nR) hk).mono ?_;rw [HZ.out];rintro e w3 ⟨rfl,B3⟩;have HBW3:=hide (HBW2.out.trans (B3.mono HBW2.out.size));clear B3;go_wp2;go_ret;exact ⟨rfl,HBW3.out⟩
theorem zj7 {xs ys:List Bool}{is:List Ino}{bs:List Blk}(h:okB xs.length ys.length=false):false=zag xs ys is bs:=by unfold zag;rw [h];rfl
theorem diskOk_i {xs ys:List Bool}{is:List Ino}{bs:List Blk}(h:is.length≠8):false=zag xs ys is bs:=by unfold zag;simp [h]
theorem diskOk_b {xs ys:List Bool}{is:List Ino}{bs:List Blk}(h:bs.length≠16):false=zag xs ys is bs:=by unfold zag;simp [h]
theorem znc {xs ys:List Bool}{is:List Ino}{bs:List Blk}(h:zdp is=false):false=zag xs ys is bs:=by unfold zag;simp [h]
theorem znd {xs ys:List Bool}{is:List Ino}{bs:List Blk}(h:zdq bs=false):false=zag xs ys is bs:=by unfold zag;simp [h]
theorem zly {xs ys:List Bool}{is:List Ino}{bs:List Blk}(h:okB xs.length ys.length=true)(h1:is.length=8)(h2:bs.length=16)(h3:zdp is=true)(h4:zdq bs=true):true=zag xs ys is bs:=by unfold zag;simp [h,h1,h2,h3,h4]
theorem zb7 (u v iv bv:Value)(xs ys:List Bool)(is:List Ino)(bs:List Blk)(w:World)(h:DR w u v iv bv xs ys is bs)(hB:∀ (j:Nat) (h:j < bs.length) (k:Nat) (h':k < bs[j].2.1.length),bs[j].2.1[k].1.size<=1048576) :
  Calls Tryz.prog 34 #[.agg #[u,v,iv,bv]] w fun e w'=>e=.returned (.bool (zag xs ys is bs))/\Below w.heap.size w w':=by
 have H:=hide h;have HG:=hide hB;obtain ⟨a3,c3,ri,-,hii⟩:=h.i.ino;obtain ⟨a4,c4,rb,-,hkk⟩:=h.k.blk;have HI:=hide hii;have HK:=hide hkk;obtain ⟨a1,c1,a2,c2,-,-,-,-,rfl,rfl,-,-⟩:=h.form;subst ri rb;obtain ⟨x,hx⟩:∃ x,okB xs.length ys.length=x:=⟨_,rfl⟩
 have HX:=hide hx;obtain ⟨n,hn⟩:∃ n,xs.length=n:=⟨_,rfl⟩
 obtain ⟨m,hm⟩:∃ m,ys.length=m:=⟨_,rfl⟩
 obtain ⟨ni,hni⟩:∃ ni,is.length=ni:=⟨_,rfl⟩
 obtain ⟨nb,hnb⟩:∃ nb,bs.length=nb:=⟨_,rfl⟩
 have HN:=hide (And.intro hni hnb);rw [hn,hm] at hx;rw [hn,hm,hni,hnb];have C:=hide (zjv a1 a2 n m c1 c2);rw [hx] at C;clear h hB hii hkk hx hn hm hni hnb;go_enter Tryz.func34,Tryz.ntmps34
 go_wp2_with fail
 refine (C.out _).mono ?_;rintro e w1 ⟨rfl,B1⟩;have BW:Below w.heap.size w w1:=((Below.refl _ w).alloc nR _).trans (B1.mono (by simp));have K0:AtC w1 w.heap.size 35 #[.slice a1 n c1,.slice a2 m c2,.slice a3 ni c3,.slice a4 nb c4]:=(AtC.new w 35 _).over B1;have p2:w1.cell? ⟨w.heap.size,2,none⟩=some (.slice a3 ni c3):=K0.cell 2;have p3:w1.cell? ⟨w.heap.size,3,none⟩=some (.slice a4 nb c4):=K0.cell 3;have HBW:=hide BW;have HK0:=hide K0;clear B1 BW K0 C
 cases x with
 | false =>
  go_wp2;go_ret;exact ⟨zac (zj7 HX.out),HBW.out⟩
 | true =>
  by_cases h8:ni=8
  ·by_cases h16:nb=16
   ·subst h8 h16;go_wp2;go_loopw [3] (fun i wr=>∃ j:Nat,j<=8/\i=.int .i64 j/\Hid (∀ (k:Nat) (h:k < is.length),k < j->inoOk is[k]=true)/\Hid (Below w1.heap.size w1 wr)) (fun i _=>8 - (intOf i).toNat)
    case atStart=>exact ⟨0,Nat.zero_le _,rfl,fun _ _ h=>absurd h (Nat.not_lt_zero _),Below.refl _ _⟩
    case round =>
     obtain ⟨j,hj,rfl,HS,HBR⟩:=hrel;have K0:=HK0.out.over HBR.out;have p4:wr.cell? ⟨w.heap.size,2,none⟩=some (.slice a3 8 c3):=K0.cell 2;have p5:wr.cell? ⟨w.heap.size,3,none⟩=some (.slice a4 16 c4):=K0.cell 3;have HB0:=hide (HBW.out.trans (HBR.out.mono HBW.out.size));clear K0;by_cases hlt:j < 8
     ·obtain ⟨g1,o1,pp,rfl,hg1,m1,m2,m3,hr1⟩:=HI.out j (by rw [HN.out.1];exact hlt);have q1:=(HB0.out.cell (p:=⟨g1,o1+j * 3,none⟩) hg1).trans m1;have q2:=(HB0.out.cell (p:=⟨g1,o1+j * 3+1,none⟩) hg1).trans m2;have q3:=(HB0.out.cell (p:=⟨g1,o1+j * 3+2,none⟩) hg1).trans m3;obtain ⟨y,hy⟩:∃ x,is[j]'(by rw [HN.out.1];exact hlt)=x:=⟨_,rfl⟩
      obtain ⟨y,s,z⟩:=y;rw [hy] at q1 q2 hr1;obtain ⟨pa,pc,rfl⟩:=hr1.form;simp only at q1 q2 q3 hr1;have HR:=hide (hr1.below HB0.out nR);have j0:(0:Int)<=(j:Int):=by omega
      have j1:(j:Int) < 8:=by omega
      have HY:=hide hy;clear m1 m2 m3 hr1 hy
      cases hq:okL y s z with
      | true =>
       have HQ:=hide hq;clear hq;go_wp2_with (go_at_call 76;refine (zfd _ _ z _ _ HR.out).mono ?_;rw [HQ.out];rintro e w2 ⟨rfl,B2⟩;have HB2:=hide (HBR.out.trans (B2.mono HBR.out.size));clear B2)
       go_roundw
       case rel =>
        refine ⟨j+1,by omega,by go_num,fun k hk hkj=>?_,HB2.out⟩;by_cases hkk:k=j
        ·subst hkk;rw [HY.out];exact HQ.out
        ·exact HS.out k hk (by omega)
       case measure=>simp [intOf];omega
      | false =>
       have hno:zdp is=false:=zkw (by rw [HN.out.1];exact hlt) (by rw [HY.out];exact hq);have HNO:=hide hno;have HQ:=hide hq;clear hq hno;go_wp2_with (go_at_call 76;refine (zfd _ _ z _ _ HR.out).mono ?_;rw [HQ.out];rintro e w2 ⟨rfl,B2⟩;have HB2:=hide (HB0.out.trans (B2.mono HB0.out.size));clear B2)
       go_ret;exact ⟨zac (znc HNO.out),HB2.out⟩
     ·have hyes:zdp is=true:=zg4 fun k hk=>HS.out k hk (by rw [HN.out.1] at hk;omega);have HYS:=hide hyes;clear hyes;go_wp2;go_loopw [4] (fun i wq=>∃ j:Nat,j<=16/\i=.int .i64 j/\Hid (∀ (k:Nat) (h:k < bs.length),k < j->blkOk bs[k]=true)/\Hid (Below wr.heap.size wr wq)) (fun i _=>16 - (intOf i).toNat)
      case atStart=>exact ⟨0,Nat.zero_le _,rfl,fun _ _ h=>absurd h (Nat.not_lt_zero _),Below.refl _ _⟩
      case round =>
       obtain ⟨j,hj,rfl,HS2,HBQ⟩:=hrel;have HB1:=hide (HB0.out.trans (HBQ.out.mono HB0.out.size));have K1:=HK0.out.over (HBR.out.trans (HBQ.out.mono HBR.out.size));have p6:wr.cell? ⟨w.heap.size,3,none⟩=some (.slice a4 16 c4):=K1.cell 3;clear K1;by_cases hlt2:j < 16
       ·obtain ⟨g1,o1,pp,rfl,hg1,m1,m2,m3,hr1⟩:=HK.out j (by rw [HN.out.2];exact hlt2);have q1:=(HB1.out.cell (p:=⟨g1,o1+j * 3,none⟩) hg1).trans m1;have q2:=(HB1.out.cell (p:=⟨g1,o1+j * 3+1,none⟩) hg1).trans m2;have q3:=(HB1.out.cell (p:=⟨g1,o1+j * 3+2,none⟩) hg1).trans m3;have key:∀ b:Blk,bs[j]'(by rw [HN.out.2];exact hlt2)=b->∀ (k:Nat) (h':k < b.2.1.length),b.2.1[k].1.size<=1048576:=by
         rintro b rfl;exact HG.out j _
        obtain ⟨y,hy⟩:∃ x,bs[j]'(by rw [HN.out.2];exact hlt2)=x:=⟨_,rfl⟩
        obtain ⟨y,s,z⟩:=y;rw [hy] at q1 q3 hr1;have hbg:∀ (k:Nat) (h':k < s.length),s[k].1.size<=1048576:=key _ hy;obtain ⟨pa,pc,rfl⟩:=hr1.form;simp only at q1 q2 q3 hr1;have HR:=hide (hr1.below HB1.out nR);have HBG:=hide hbg;have j0:(0:Int)<=(j:Int):=by omega
        have j1:(j:Int) < 16:=by omega
        have HY:=hide hy;clear m1 m2 m3 hr1 hy hbg key
        cases hq:za4 y s z with
        | true =>
         have HQ:=hide hq;clear hq;go_wp2_with (go_at_call 77;refine (zfi _ _ _ s _ HR.out HBG.out).mono ?_;rw [HQ.out];rintro e w2 ⟨rfl,B2⟩;have HB2:=hide (HBQ.out.trans (B2.mono HBQ.out.size));clear B2)
         go_roundw
         case rel =>
          refine ⟨j+1,by omega,by go_num,fun k hk hkj=>?_,HB2.out⟩;by_cases hkk:k=j
          ·subst hkk;rw [HY.out];exact HQ.out
          ·exact HS2.out k hk (by omega)
         case measure=>simp [intOf];omega
        | false =>
         have hno:zdq bs=false:=zkw (by rw [HN.out.2];exact hlt2) (by rw [HY.out];exact hq);have HNO:=hide hno;have HQ:=hide hq;clear hq hno;go_wp2_with (go_at_call 77;refine (zfi _ _ _ s _ HR.out HBG.out).mono ?_;rw [HQ.out];rintro e w2 ⟨rfl,B2⟩;have HB2:=hide (HB1.out.trans (B2.mono HB1.out.size));clear B2)
         go_ret;exact ⟨zac (znd HNO.out),HB2.out⟩
       ·have hyes:zdq bs=true:=zg4 fun k hk=>HS2.out k hk (by rw [HN.out.2] at hk;omega);have HYS2:=hide hyes;clear hyes;go_wp2;go_ret;exact ⟨zac (zly HX.out HN.out.1 HN.out.2 HYS.out HYS2.out),HB1.out⟩
   ·have hne:bs.length≠16:=by rw [HN.out.2];exact h16
    have HNE:=hide hne;have hb16:((nb:Int) != 16)=true:=by simp;omega
    clear hne;subst h8;go_wp2;go_ret;exact ⟨zac (diskOk_b HNE.out),HBW.out⟩
  ·have hne:is.length≠8:=by rw [HN.out.1];exact h8
   have HNE:=hide hne;have hb8:((ni:Int) != 8)=true:=by simp;omega
   clear hne;go_wp2;go_ret;exact ⟨zac (diskOk_i HNE.out),HBW.out⟩
theorem zhf:∀ (l p:List Sl),okF p l=true->∀ s∈l,zdo s=true
 | [],_,_,_,h=>by cases h
 | x :: r,p,h,s,hs=>by
  rw [okF,Bool.and_eq_true,Bool.and_eq_true] at h;rcases List.mem_cons.1 hs with rfl | hs
  ·exact h.1.1
  ·exact zhf r _ h.2 s hs
theorem RD.of_ok {xs ys:List Bool}{is:List Ino}{bs:List Blk}(h:zag xs ys is bs=true):RD is bs:=by
 unfold zag at h;simp only [Bool.and_eq_true,decide_eq_true_eq] at h;obtain ⟨⟨-,h1,h2⟩,h3,h4⟩:=h;have hi:∀ q∈is,inoOk q=true:=List.all_eq_true.1 h1;have hb:∀ q∈bs,blkOk q=true:=List.all_eq_true.1 h3;have hi2:∀ q∈is,∃ a b,q.2.2=[a,b]/\okR q.1 q.2.1 a b=true:=fun q hq=>by
  have:=hi q hq;unfold inoOk at this;obtain ⟨k,l,ps⟩:=q
  match ps,this with
  | [a,b],h=>exact ⟨a,b,rfl,h⟩
  | [],h=>cases h
  | [_],h=>cases h
  | _ :: _ :: _ :: _,h=>cases h
 have hb2:∀ q∈bs,(q.1=true->q.2.2.size=0/\za1 q.2.1=true)/\(q.1=false->q.2.1.length=0/\q.2.2.size<=16):=fun q hq=>by
  have:=hb q hq;unfold blkOk za4 at this;constructor
  ·intro e;rw [e] at this;simpa using this
  ·intro e;rw [e] at this;simpa using this
 refine ⟨h2,h4,fun q hq=>?_,fun q hq=>?_,fun q hq=>?_,fun q hq e=>?_,fun q hq s hs=>?_,fun q hq=>?_⟩
 ·obtain ⟨a,b,-,h⟩:=hi2 q hq;have:=of_decide_eq_true h;omega
 ·obtain ⟨a,b,e,-⟩:=hi2 q hq;rw [e];rfl
 ·cases e:q.1 with
  | true =>
   have:=(hb2 q hq).1 e;unfold za1 at this;simp only [Bool.and_eq_true,decide_eq_true_eq] at this;omega
  | false=>have:=(hb2 q hq).2 e;omega
 ·exact List.length_eq_zero_iff.1 ((hb2 q hq).2 e).1
 ·cases e:q.1 with
  | true =>
   have:=((hb2 q hq).1 e).2;unfold za1 at this;rw [Bool.and_eq_true] at this;have:=zhf _ _ this.2 s hs;rcases of_decide_eq_true this with h | h
   ·exact .inl (zff h.1)
   ·exact .inr h.1
  | false =>
   have:=List.length_eq_zero_iff.1 ((hb2 q hq).2 e).1;rw [this] at hs;cases hs
 ·cases e:q.1 with
  | true=>have:=(hb2 q hq).1 e;omega
  | false=>exact ((hb2 q hq).2 e).2
theorem zne (i:Int)(w:World) :
  Calls Tryz.prog 153 #[.int .i64 i] w fun e w'=>∃ r:Int,e=.returned (.int .i64 r)/\decide (0<=r)=inB i 1 8/\w'=w:=by
 cases hb:inB i 1 8 with
 | false =>
  rcases ze9 hb with h | h
  ·have h2:decide (i < 1)=true:=by simp;omega
   go_enter Tryz.func153,Tryz.ntmps153
   go_wp2;go_ret;exact ⟨-1,rfl,by decide,rfl⟩
  ·have h1:decide (i < 1)=false:=by simp;omega
   have h2:decide (8 < i)=true:=by simp;omega
   go_enter Tryz.func153,Tryz.ntmps153
   go_wp2;go_ret;exact ⟨-1,rfl,by decide,rfl⟩
 | true =>
  obtain ⟨h0,h1⟩:=zao hb;have h2:decide (i < 1)=false:=by simp;omega
  have h3:decide (8 < i)=false:=by simp;omega
  go_enter Tryz.func153,Tryz.ntmps153
  go_wp2;go_ret;refine ⟨_,rfl,?_,rfl⟩;simp;omega
theorem znf (i:Int)(w:World) :
  Calls Tryz.prog 155 #[.int .i64 i] w fun e w'=>∃ r:Int,e=.returned (.int .i64 r)/\decide (0<=r)=inB i 1 16/\w'=w:=by
 cases hb:inB i 1 16 with
 | false =>
  rcases ze9 hb with h | h
  ·have h2:decide (i < 1)=true:=by simp;omega
   go_enter Tryz.func155,Tryz.ntmps155
   go_wp2;go_ret;exact ⟨-1,rfl,by decide,rfl⟩
  ·have h1:decide (i < 1)=false:=by simp;omega
   have h2:decide (16 < i)=true:=by simp;omega
   go_enter Tryz.func155,Tryz.ntmps155
   go_wp2;go_ret;exact ⟨-1,rfl,by decide,rfl⟩
 | true =>
  obtain ⟨h0,h1⟩:=zao hb;have h2:decide (i < 1)=false:=by simp;omega
  have h3:decide (16 < i)=false:=by simp;omega
  go_enter Tryz.func155,Tryz.ntmps155
  go_wp2;go_ret;refine ⟨_,rfl,?_,rfl⟩;simp;omega
theorem zdv (i:Int)(dx dy bv:Value)(a3:Option Addr)(c3:Nat)(w:World) :
  Calls Tryz.prog 125 #[.agg #[dx,dy,.slice a3 8 c3,bv],.int .i64 i] w fun e w'=>e=.returned (.bool (inB i 1 8))/\w'=w.alloc (.cells #[dx,dy,.slice a3 8 c3,bv] 35):=by
 have CU:=hide (fun W=>zne i W)
 cases hb:inB i 1 8 with
 | false =>
  rw [hb] at CU;go_enter Tryz.func125,Tryz.ntmps125
  go_wp2_with fail
  refine (CU.out _).mono ?_;rintro e w1 ⟨r,rfl,hr,rfl⟩;go_wp2;go_ret;exact ⟨rfl,rfl⟩
 | true =>
  rw [hb] at CU;obtain ⟨h0,h1⟩:=zao hb;have h2:decide (i<=8)=true:=by simp;omega
  go_enter Tryz.func125,Tryz.ntmps125
  go_wp2_with fail
  refine (CU.out _).mono ?_;rintro e w1 ⟨r,rfl,hr,rfl⟩;go_wp2;go_ret;exact ⟨rfl,rfl⟩
theorem zhg (i:Int)(dx dy iv:Value)(a3:Option Addr)(c3:Nat)(w:World) :
  Calls Tryz.prog 127 #[.agg #[dx,dy,iv,.slice a3 16 c3],.int .i64 i] w fun e w'=>e=.returned (.bool (inB i 1 16))/\w'=w.alloc (.cells #[dx,dy,iv,.slice a3 16 c3] 35):=by
 have CU:=hide (fun W=>znf i W)
 cases hb:inB i 1 16 with
 | false =>
  rw [hb] at CU;go_enter Tryz.func127,Tryz.ntmps127
  go_wp2_with fail
  refine (CU.out _).mono ?_;rintro e w1 ⟨r,rfl,hr,rfl⟩;go_wp2;go_ret;exact ⟨rfl,rfl⟩
 | true =>
  rw [hb] at CU;obtain ⟨h0,h1⟩:=zao hb;have h2:decide (i<=16)=true:=by simp;omega
  go_enter Tryz.func127,Tryz.ntmps127
  go_wp2_with fail
  refine (CU.out _).mono ?_;rintro e w1 ⟨r,rfl,hr,rfl⟩;go_wp2;go_ret;exact ⟨rfl,rfl⟩
theorem zbm (i:Int)(dx dy iv bv:Value)(xs ys:List Bool)(is:List Ino)(bs:List Blk)(w:World)(h:DR w dx dy iv bv xs ys is bs)(hR:RD is bs) :
  Calls Tryz.prog 97 #[.agg #[dx,dy,iv,bv],.int .i64 i] w fun e w'=>e=.returned (.int .i64 (zab is i))/\Below w.heap.size w w':=by
 obtain ⟨a3,c3,rfl,-,hc⟩:=h.i;have h8:=hR.hi;have HB0:Hid (∀ A B,Below w.heap.size w ((w.alloc (.cells A 35)).alloc (.cells B 35))):=fun A B=>((Below.refl _ w).alloc nR _).alloc (by simp) _;have CH:=hide (fun W=>zdv i dx dy bv a3 c3 W)
 cases hb:inB i 1 8 with
 | false =>
  rw [hb] at CH;have e0:zab is i=0:=zaz (by rw [h8];exact hb);rw [e0,h8];clear hc h hR hb;go_enter Tryz.func97,Tryz.ntmps97
  go_wp2_with fail
  refine (CH.out _).mono ?_;rintro e w1 ⟨rfl,rfl⟩;go_wp2;go_ret;exact ⟨rfl,HB0.out _ _⟩
 | true =>
  rw [hb] at CH;obtain ⟨h1,h2⟩:=zao hb;obtain ⟨j,rfl⟩:∃ j:Nat,i=(j:Int)+1:=⟨(i - 1).toNat,by omega⟩
  have hj:j < is.length:=by omega
  obtain ⟨g2,o2,⟨t0,t1,t2⟩,rfl,hg2,r0,r1,r2,e0,e1,rr⟩:=hc j hj;rw [(zai hj).1];obtain ⟨⟨kd,ln,ps⟩,hX⟩:∃ X,is[j]=X:=⟨_,rfl⟩
  rw [hX] at e0 e1 rr ⊢;simp only at e0 e1 rr r0 r1 r2 ⊢;subst e0 e1;have hwj:IntKind.i64.wrap (j:Int)=(j:Int):=wrap_small _ (by omega) (by omega);have j0:(0:Int)<=(j:Int):=by omega
  have j1:(j:Int) < 8:=by omega
  have y0:((w.alloc (.cells #[dx,dy,.slice (some ⟨g2,o2,none⟩) 8 c3,bv] 35)).alloc (.cells #[dx,dy,.slice (some ⟨g2,o2,none⟩) 8 c3,bv] 35)).cell? ⟨g2,o2+j * 3,none⟩=some (.int .i64 kd):=((HB0.out _ _).cell (p:=⟨g2,o2+j * 3,none⟩) hg2).trans r0;rw [h8];clear hc h hR hb h1 h2 hX rr r0 r1 r2 h8;go_enter Tryz.func97,Tryz.ntmps97
  go_wp2_with fail
  refine (CH.out _).mono ?_;rintro e w1 ⟨rfl,rfl⟩;go_wp2;go_ret;exact ⟨rfl,HB0.out _ _⟩
theorem zgh (i:Int)(dx dy iv bv:Value)(xs ys:List Bool)(is:List Ino)(bs:List Blk)(w:World)(h:DR w dx dy iv bv xs ys is bs)(hR:RD is bs) :
  Calls Tryz.prog 52 #[.agg #[dx,dy,iv,bv],.int .i64 i] w fun e w'=>e=.returned (.bool (decide (¬ zab is i=0)))/\Below w.heap.size w w':=by
 have CK:=hide (zbm i dx dy iv bv xs ys is bs (w.alloc (.cells #[dx,dy,iv,bv] 35)) (h.alloc _) hR);have HB:Hid (∀ w1,Below (w.alloc (.cells #[dx,dy,iv,bv] 35)).heap.size (w.alloc (.cells #[dx,dy,iv,bv] 35)) w1->Below w.heap.size w w1):=fun w1 b=>((Below.refl _ w).alloc nR _).trans (b.mono (by simp));obtain ⟨a1,c1,a2,c2,a3,c3,a4,c4,rfl,rfl,rfl,rfl⟩:=h.form;have hk3:=hR.kind i;obtain ⟨kd,hkd⟩:∃ k,zab is i=k:=⟨_,rfl⟩
 rw [hkd] at hk3 CK ⊢;clear h hR hkd;rcases hk3 with rfl | rfl | rfl
 all_goals
  go_enter Tryz.func52,Tryz.ntmps52
  go_wp2_with fail
  refine CK.out.mono ?_;rintro e w1 ⟨rfl,B1⟩;have HB1:=hide (HB.out _ B1);clear B1;go_wp2;go_ret;exact ⟨rfl,HB1.out⟩
open Go.Shelf
def Tryz.laysM316_ren:Go.Shelf.Ren:=⟨fun | 316=>157 | n=>n,fun | 9=>9 | 3=>3 | 4=>4 | 37=>175 | 0=>0 | 127=>176 | 5=>5 | n=>n,fun | n=>n⟩
theorem Tryz.laysM316:Go.Proofs.LaysM.n316 Tryz.prog Tryz.laysM316_ren:={
 mixed:=by kernel_rfl
 f316:=Tryz.func157.trans (congrArg some (by kernel_rfl))
 t0:=Tryz.underlying0
 a0:=Tryz.isAgg0
 z0:=Tryz.sizeOf0
 v0:=Tryz.zeroValue0
 t3:=Tryz.underlying3
 a3:=Tryz.isAgg3
 z3:=Tryz.sizeOf3
 v3:=Tryz.zeroValue3
 t4:=Tryz.underlying4
 a4:=Tryz.isAgg4
 z4:=Tryz.sizeOf4
 v4:=Tryz.zeroValue4
 t9:=Tryz.underlying9
 a9:=Tryz.isAgg9
 z9:=Tryz.sizeOf9
 v9:=Tryz.zeroValue9
 t37:=Tryz.underlying175
 a37:=Tryz.isAgg175
 z37:=Tryz.sizeOf175
 v37:=Tryz.zeroValue175
 t127:=Tryz.underlying176
 a127:=Tryz.isAgg176
 z127:=Tryz.sizeOf176
 v127:=Tryz.zeroValue176
 t5:=Tryz.underlying5
 a5:=Tryz.isAgg5
 z5:=Tryz.sizeOf5
 v5:=Tryz.zeroValue5
 i0:=by kernel_rfl
 i3:=by kernel_rfl
 i4:=by kernel_rfl
 i5:=by kernel_rfl
 i9:=by kernel_rfl
 i37:=by kernel_rfl
 i127:=by kernel_rfl }
open Go.RowKit in
theorem Tryz.stringslite_Clone (s:ByteArray)(w:World)(hlim:s.size<=281474976710656) :
  Calls Tryz.prog 157 #[.string s] w fun e w'=>e=.returned (.string s)/\Below w.heap.size w w':=Any.stringslite_Clone Tryz.laysM316 s w hlim
def Tryz.lays189_ren:Go.Shelf.Ren:=⟨fun | 189=>147 | 125=>159 | 257=>158 | 128=>172 | 129=>173 | 294=>163 | 295=>164 | 296=>165 | 297=>166 | 298=>167 | 299=>168 | 216=>169 | 300=>170 | 301=>171 | 328=>175 | 329=>176 | 330=>177 | 331=>178 | 332=>179 | 215=>180 | 343=>181 | n=>n,fun | 28=>54 | 3=>3 | 46=>173 | 0=>0 | 51=>187 | 53=>189 | 4=>4 | 183=>179 | 182=>178 | 131=>184 | 5=>5 | 9=>9 | 218=>190 | 222=>194 | 228=>196 | 229=>197 | n=>n,fun | n=>n⟩
theorem Tryz.lays189:Go.Proofs.Lays.n189 Tryz.prog Tryz.lays189_ren:={
 mixed:=by kernel_rfl
 f125:=Tryz.func159.trans (congrArg some (by kernel_rfl))
 f128:=Tryz.func172.trans (congrArg some (by kernel_rfl))
 f129:=Tryz.func173.trans (congrArg some (by kernel_rfl))
 f189:=Tryz.func147.trans (congrArg some (by kernel_rfl))
 f215:=Tryz.func180.trans (congrArg some (by kernel_rfl))
 f216:=Tryz.func169.trans (congrArg some (by kernel_rfl))
 f257:=Tryz.func158.trans (congrArg some (by kernel_rfl))
 f294:=Tryz.func163.trans (congrArg some (by kernel_rfl))
 f295:=Tryz.func164.trans (congrArg some (by kernel_rfl))
 f296:=Tryz.func165.trans (congrArg some (by kernel_rfl))
 f297:=Tryz.func166.trans (congrArg some (by kernel_rfl))
 f298:=Tryz.func167.trans (congrArg some (by kernel_rfl))
 f299:=Tryz.func168.trans (congrArg some (by kernel_rfl))
 f300:=Tryz.func170.trans (congrArg some (by kernel_rfl))
 f301:=Tryz.func171.trans (congrArg some (by kernel_rfl))
 f328:=Tryz.func175.trans (congrArg some (by kernel_rfl))
 f329:=Tryz.func176.trans (congrArg some (by kernel_rfl))
 f330:=Tryz.func177.trans (congrArg some (by kernel_rfl))
 f331:=Tryz.func178.trans (congrArg some (by kernel_rfl))
 f332:=Tryz.func179.trans (congrArg some (by kernel_rfl))
 f343:=Tryz.func181.trans (congrArg some (by kernel_rfl))
 t0:=Tryz.underlying0
 a0:=Tryz.isAgg0
 z0:=Tryz.sizeOf0
 v0:=Tryz.zeroValue0
 t3:=Tryz.underlying3
 a3:=Tryz.isAgg3
 z3:=Tryz.sizeOf3
 v3:=Tryz.zeroValue3
 t4:=Tryz.underlying4
 a4:=Tryz.isAgg4
 z4:=Tryz.sizeOf4
 v4:=Tryz.zeroValue4
 t5:=Tryz.underlying5
 a5:=Tryz.isAgg5
 z5:=Tryz.sizeOf5
 v5:=Tryz.zeroValue5
 t9:=Tryz.underlying9
 a9:=Tryz.isAgg9
 z9:=Tryz.sizeOf9
 v9:=Tryz.zeroValue9
 t28:=Tryz.underlying54
 a28:=Tryz.isAgg54
 z28:=Tryz.sizeOf54
 v28:=Tryz.zeroValue54
 t46:=Tryz.underlying173
 a46:=Tryz.isAgg173
 z46:=Tryz.sizeOf173
 v46:=Tryz.zeroValue173
 t51:=Tryz.underlying187
 a51:=Tryz.isAgg187
 z51:=Tryz.sizeOf187
 v51:=Tryz.zeroValue187
 t53:=Tryz.underlying189
 a53:=Tryz.isAgg189
 z53:=Tryz.sizeOf189
 v53:=Tryz.zeroValue189
 t131:=Tryz.underlying184
 a131:=Tryz.isAgg184
 z131:=Tryz.sizeOf184
 v131:=Tryz.zeroValue184
 t182:=Tryz.underlying178
 a182:=Tryz.isAgg178
 z182:=Tryz.sizeOf178
 v182:=Tryz.zeroValue178
 t183:=Tryz.underlying179
 a183:=Tryz.isAgg179
 z183:=Tryz.sizeOf179
 v183:=Tryz.zeroValue179
 t218:=Tryz.underlying190
 a218:=Tryz.isAgg190
 z218:=Tryz.sizeOf190
 v218:=Tryz.zeroValue190
 t222:=Tryz.underlying194
 a222:=Tryz.isAgg194
 z222:=Tryz.sizeOf194
 v222:=Tryz.zeroValue194
 t228:=Tryz.underlying196
 a228:=Tryz.isAgg196
 z228:=Tryz.sizeOf196
 v228:=Tryz.zeroValue196
 t229:=Tryz.underlying197
 a229:=Tryz.isAgg197
 z229:=Tryz.sizeOf197
 v229:=Tryz.zeroValue197 }
open Go.Sort Go.RowKit in
theorem Tryz.slices_Sort_int (blk off cap:Nat)(zs:List Int)(w:World)(hH:Holds (Value.int .i64) w blk off zs.toArray)(hblk:blk < w.heap.size)(hsz:zs.length < 4611686018427387904) :
  Calls Tryz.prog 147 #[.slice (some ⟨blk,off,none⟩) zs.length cap] w fun e w' =>
   e=.returned (.tuple #[])/\∃ n os,w'=grow (putRow (Value.int .i64) (Sort.ahead w n) blk off (zs.mergeSort fun x y=>decide (x<=y)).toArray) os:=Any.slices_Sort_int Tryz.lays189 blk off cap zs w hH hblk hsz
def Tryz.lays107_ren:Go.Shelf.Ren:=⟨fun | 107=>111 | 108=>148 | n=>n,fun | 28=>54 | 3=>3 | 4=>4 | 0=>0 | n=>n,fun | n=>n⟩
theorem Tryz.lays107:Go.Proofs.Lays.n107 Tryz.prog Tryz.lays107_ren:={
 mixed:=by kernel_rfl
 f107:=Tryz.func111.trans (congrArg some (by kernel_rfl))
 f108:=Tryz.func148.trans (congrArg some (by kernel_rfl))
 t0:=Tryz.underlying0
 a0:=Tryz.isAgg0
 z0:=Tryz.sizeOf0
 v0:=Tryz.zeroValue0
 t3:=Tryz.underlying3
 a3:=Tryz.isAgg3
 z3:=Tryz.sizeOf3
 v3:=Tryz.zeroValue3
 t4:=Tryz.underlying4
 a4:=Tryz.isAgg4
 z4:=Tryz.sizeOf4
 v4:=Tryz.zeroValue4
 t28:=Tryz.underlying54
 a28:=Tryz.isAgg54
 z28:=Tryz.sizeOf54
 v28:=Tryz.zeroValue54 }
open Go.Lib in
theorem Tryz.slices_Contains_int (b off n c:Nat)(zs:List Int)(x:Int)(w:World)(hz:n<=zs.length)(hbig:n<=9223372036854775807)(hc:∀ j,j < zs.length->w.cell? ⟨b,off+j,none⟩=some (.int .i64 (zs.getD j 0))) :
  Calls Tryz.prog 111 #[.slice (some ⟨b,off,none⟩) n c,.int .i64 x] w fun e w'=>e=.returned (.bool ((zs.take n).contains x))/\w'=w:=Any.slices_Contains_int Tryz.lays107 b off n c zs x w hz hbig hc
open Go.Lib in
theorem Tryz.slices_Contains_int_empty (a:Option Addr)(c:Nat)(x:Int)(w:World) :
  Calls Tryz.prog 111 #[.slice a 0 c,.int .i64 x] w fun e w'=>e=.returned (.bool false)/\w'=w:=Any.slices_Contains_int_empty Tryz.lays107 a c x w
open Go.RowKit Go.Sort in
theorem Tryz.slices_Sort_int_none (p:Option Addr)(cap:Nat)(w:World) :
  Calls Tryz.prog 147 #[.slice p 0 cap] w fun e w'=>e=.returned (.tuple #[])/\w'=w:=Any.slices_Sort_int_none Tryz.lays189 p cap w
def Tryz.laysSlE33_f107_ren:Go.Shelf.Ren:=⟨fun | 33=>107 | n=>n,fun | 22=>22 | 23=>4 | 4=>4 | 3=>3 | 0=>0 | n=>n,fun | n=>n⟩
theorem Tryz.laysSlE33_f107:Go.Proofs.SlLaysE.n33 Tryz.prog Tryz.laysSlE33_f107_ren:={
 mixed:=by kernel_rfl
 f33:=⟨Tryz.f107.name,by decide,Tryz.func107.trans (congrArg some (by kernel_rfl))⟩
 t0:=Tryz.underlying0
 a0:=Tryz.isAgg0
 z0:=Tryz.sizeOf0
 v0:=Tryz.zeroValue0
 t3:=Tryz.underlying3
 a3:=Tryz.isAgg3
 z3:=Tryz.sizeOf3
 v3:=Tryz.zeroValue3
 t4:=Tryz.underlying4
 a4:=Tryz.isAgg4
 z4:=Tryz.sizeOf4
 v4:=Tryz.zeroValue4
 t22:=Tryz.underlying22
 a22:=Tryz.isAgg22
 z22:=Tryz.sizeOf22
 v22:=Tryz.zeroValue22
 a23:=Tryz.isAgg4
 z23:=Tryz.sizeOf4 }
open Go.RowKit Go.Lib in
theorem Tryz.slices_Equal_f107 {α:Type}[Inhabited α](enc:α->Value)(eq:α->α->Bool)(hne:NeqAt Tryz.prog 4 enc eq)(b1 o1 n c b2 o2 m d:Nat)(xs ys:List α)(w:World)(hx:n<=xs.length)(hy:m<=ys.length)(hbig:n<=9223372036854775807)(hbig2:m<=9223372036854775807)(hc1:∀ j,j < xs.length->w.cell? ⟨b1,o1+j,none⟩=some (enc xs[j]!))(hc2:∀ j,j < ys.length->w.cell? ⟨b2,o2+j,none⟩=some (enc ys[j]!)) :
  Calls Tryz.prog 107 #[.slice (some ⟨b1,o1,none⟩) n c,.slice (some ⟨b2,o2,none⟩) m d] w fun e w'=>e=.returned (.bool (Lib.allEq eq (xs.take n) (ys.take m)))/\∃ q,w'=w.drewN q:=AnyE.slices_Equal Tryz.laysSlE33_f107 enc eq hne b1 o1 n c b2 o2 m d xs ys w hx hy hbig hbig2 hc1 hc2
theorem zgi (s:ByteArray)(w:World)(hs:s.size<=1000) :
  Calls Tryz.prog 134 #[.string s] w fun e w'=>e=.returned (.string s)/\Below w.heap.size w w':=by
 have CS:=hide (Tryz.stringslite_Clone s w (by omega));go_enter Tryz.func134,Tryz.ntmps134
 go_wp2_with fail
 refine CS.out.mono ?_;rintro e w1 ⟨rfl,B1⟩;have HB:=hide B1;clear B1;go_wp2;go_ret;exact ⟨rfl,HB.out⟩
def za6 (is:List Ino) (bs:List Blk) (i kind:Int):List Blk:=if zab is i=kind then (zak is i).map (blkAt bs) else []
theorem ziz {w:World}{bv:Value}{bs:List Blk}(h:R3 KB w bv bs)(x:Int):∃ t:V3,KB.R w t (blkAt bs x)/\(inB x 1 bs.length=false->t=(.bool false,.slice none 0 0,.string ⟨#[]⟩))/\(inB x 1 bs.length=true->∃ (j:Nat) (g off c:Nat),x=(j:Int)+1/\j < bs.length/\bv=.slice (some ⟨g,off,none⟩) bs.length c/\g < w.heap.size/\w.cell? ⟨g,off+j * 3,none⟩=some t.1/\w.cell? ⟨g,off+j * 3+1,none⟩=some t.2.1/\w.cell? ⟨g,off+j * 3+2,none⟩=some t.2.2):=by
 cases hb:inB x 1 bs.length with
 | false =>
  rw [zg8 hb];exact ⟨(.bool false,.slice none 0 0,.string ⟨#[]⟩),⟨rfl,⟨none,0,rfl,Nat.le_refl _,fun j hj=>by simp at hj⟩,rfl⟩,(fun _=>rfl),fun e=>by cases e⟩
 | true =>
  obtain ⟨j,hj,rfl,e⟩:=ze1 hb;obtain ⟨a,c,rfl,-,hc⟩:=h;obtain ⟨g,off,t,rfl,hg,k0,k1,k2,hr⟩:=hc j hj;exact ⟨t,by rw [e];exact hr,(fun e=>by cases e),fun _=>⟨j,g,off,c,rfl,hj,rfl,hg,k0,k1,k2⟩⟩
def zbw (u v:V3):Nat->Array Value
 | 0=>#[.bool false,.slice none 0 0,.string ⟨#[]⟩,.bool false,.slice none 0 0,.string ⟨#[]⟩]
 | 1=>#[u.1,u.2.1,u.2.2,.bool false,.slice none 0 0,.string ⟨#[]⟩]
 | _=>#[u.1,u.2.1,u.2.2,v.1,v.2.1,v.2.2]
theorem cellsJ_1 (u v:V3):(((zbw u v 0).setIfInBounds 0 u.1).setIfInBounds 1 u.2.1).setIfInBounds 2 u.2.2=zbw u v 1:=by simp [zbw]
theorem cellsJ_2 (u v:V3):(((zbw u v 1).setIfInBounds 3 v.1).setIfInBounds 4 v.2.1).setIfInBounds 5 v.2.2=zbw u v 2:=by simp [zbw]
structure BoR (w wr:World) (D L:Array Value):Prop where
 b:Below w.heap.size w wr
 d:AtC wr w.heap.size 35 D
 l:AtC wr (w.heap.size+1+1) 74 L
theorem BoR.below {w wr wr':World}{D L:Array Value}(h:BoR w wr D L)(hb:Below wr.heap.size wr wr'):BoR w wr' D L:=⟨h.b.trans (hb.mono h.b.size),h.d.over hb,h.l.over hb⟩
theorem BoR.set {w wr:World}{D L:Array Value}(h:BoR w wr D L)(j:Nat)(x:Value):BoR w (wr.setCell ⟨w.heap.size+1+1,j,none⟩ x) D (L.setIfInBounds j x) :=
 ⟨h.b.setCell (p:=⟨w.heap.size+1+1,j,none⟩) (by show w.heap.size<=w.heap.size+1+1;omega) x,h.d.other (by omega) _,h.l.set j x⟩
theorem BoR.set3 {w wr:World}{D L:Array Value}(h:BoR w wr D L)(o:Nat)(x y z:Value):BoR w (((wr.setCell ⟨w.heap.size+1+1,o,none⟩ x).setCell ⟨w.heap.size+1+1,o+1,none⟩ y).setCell ⟨w.heap.size+1+1,o+2,none⟩ z) D (((L.setIfInBounds o x).setIfInBounds (o+1) y).setIfInBounds (o+2) z):=((h.set o x).set (o+1) y).set (o+2) z
theorem r3_two {w:World}{g:Nat}{u v:V3}{x y:Blk}(h:AtC w g 74 #[u.1,u.2.1,u.2.2,v.1,v.2.1,v.2.2])(hu:KB.R w u x)(hv:KB.R w v y):R3 KB w (.slice (some ⟨g,0,none⟩) 2 2) [x,y]:=by
 refine ⟨some ⟨g,0,none⟩,2,rfl,Nat.le_refl _,fun j hj=>?_⟩;have hj':j=0\/j=1:=by simp at hj;omega
 rcases hj' with rfl | rfl
 ·exact ⟨g,0,u,rfl,h.lt,h.cell 0,h.cell 1,h.cell 2,hu⟩
 ·exact ⟨g,0,v,rfl,h.lt,h.cell 3,h.cell 4,h.cell 5,hv⟩
theorem zeq (i kind:Int)(dx dy iv bv:Value)(xs ys:List Bool)(is:List Ino)(bs:List Blk)(w:World)(h:DR w dx dy iv bv xs ys is bs)(hR:RD is bs)(hk0:¬ kind=0) :
  Calls Tryz.prog 133 #[.agg #[dx,dy,iv,bv],.int .i64 i,.int .i64 kind] w fun e w'=>∃ v,e=.returned v/\R3 KB w' v (za6 is bs i kind)/\Below w.heap.size w w':=by
 have HH:=hide h;have HRD:=hide hR;obtain ⟨a1,c1,a2,c2,a3,c3,a4,c4,rfl,rfl,rfl,rfl⟩:=h.form;have h8:=hR.hi;have h16:=hR.hb;have hc:=h.i;rw [h8,h16];have HB0:Hid (∀ A B,Below w.heap.size w ((w.alloc (.cells A 35)).alloc (.cells B 35))):=fun A B=>((Below.refl _ w).alloc nR _).alloc (by simp) _;have CH:=hide (fun W=>zdv i (.slice a1 xs.length c1) (.slice a2 ys.length c2) (.slice a4 16 c4) a3 c3 W);have hnil:∀ W,R3 KB W (.slice none 0 0) []:=fun W=>⟨none,0,rfl,Nat.le_refl _,fun j hj=>by simp at hj⟩
 have HNIL:=hide hnil;clear hnil
 cases hb:inB i 1 8 with
 | false =>
  rw [hb] at CH;have e0:za6 is bs i kind=[]:=by unfold za6;rw [zaz (by rw [h8];exact hb),if_neg (fun e=>hk0 e.symm)]
  rw [e0];clear hc h hR hb e0 h8 h16;go_enter Tryz.func133,Tryz.ntmps133
  go_wp2_with fail
  refine (CH.out _).mono ?_;rintro e w1 ⟨rfl,rfl⟩;go_wp2;go_ret;exact ⟨_,rfl,HNIL.out _,HB0.out _ _⟩
 | true =>
  rw [hb] at CH;obtain ⟨h1,h2⟩:=zao hb;obtain ⟨j,rfl⟩:∃ j:Nat,i=(j:Int)+1:=⟨(i - 1).toNat,by omega⟩
  have hj:j < is.length:=by omega
  obtain ⟨qa,qc,qe,-,qh⟩:=hc;simp only [Value.slice.injEq,true_and] at qe;obtain ⟨rfl,rfl⟩:=qe;obtain ⟨g2,o2,⟨t0,t1,t2⟩,rfl,hg2,r0,r1,r2,e0,e1,rr⟩:=qh j hj;have hpl:=hR.two _ (List.getElem_mem hj);have hB:za6 is bs ((j:Int)+1) kind=if is[j].1=kind then is[j].2.2.map (blkAt bs) else []:=by unfold za6;rw [(zai hj).1,(zai hj).2]
  rw [hB];obtain ⟨⟨kd,ln,ps⟩,hX⟩:∃ X,is[j]=X:=⟨_,rfl⟩
  rw [hX] at e0 e1 rr hpl ⊢;simp only at e0 e1 rr r0 r1 r2 hpl ⊢;subst e0 e1;obtain ⟨p0,p1,rfl⟩:∃ p0 p1,ps=[p0,p1]:=by
   match ps,hpl with
   | [p0,p1],_=>exact ⟨p0,p1,rfl⟩
  obtain ⟨sa,sc,e1,hcp⟩:=rr;have e2:t2=.slice sa 2 sc:=e1;subst e2;obtain ⟨gp,op,rfl,hgp,kp0⟩:=hcp 0 (by simp);obtain ⟨gp',op',e3,-,kp1⟩:=hcp 1 (by simp);simp only [Option.some.injEq,Addr.mk.injEq,and_true] at e3;obtain ⟨rfl,rfl⟩:=e3;simp only [List.getElem_cons_zero,List.getElem_cons_succ,Nat.add_zero] at kp0 kp1;have HP0:Hid (∀ W,Below w.heap.size w W->W.cell? ⟨gp,op,none⟩=some (.int .i64 p0)):=fun W b=>(b.cell (p:=⟨gp,op,none⟩) hgp).trans kp0;have HP1:Hid (∀ W,Below w.heap.size w W->W.cell? ⟨gp,op+1,none⟩=some (.int .i64 p1)):=fun W b=>(b.cell (p:=⟨gp,op+1,none⟩) hgp).trans kp1;have HI:Hid (∀ W,Below w.heap.size w W->W.cell? ⟨g2,o2+j * 3,none⟩=some (.int .i64 kd)/\W.cell? ⟨g2,o2+j * 3+1,none⟩=some (.int .i64 ln)/\W.cell? ⟨g2,o2+j * 3+2,none⟩=some (.slice (some ⟨gp,op,none⟩) 2 sc)):=fun W bb=>⟨(bb.cell (p:=⟨g2,o2+j * 3,none⟩) hg2).trans r0,(bb.cell (p:=⟨g2,o2+j * 3+1,none⟩) hg2).trans r1,(bb.cell (p:=⟨g2,o2+j * 3+2,none⟩) hg2).trans r2⟩
  have hwj:IntKind.i64.wrap (j:Int)=(j:Int):=wrap_small _ (by omega) (by omega);have j0:(0:Int)<=(j:Int):=by omega
  have j1:(j:Int) < 8:=by omega
  obtain ⟨y0,y1,y2⟩:=HI.out _ (HB0.out #[.slice a1 xs.length c1,.slice a2 ys.length c2,.slice (some ⟨g2,o2,none⟩) 8 c3,.slice a4 16 c4] #[.slice a1 xs.length c1,.slice a2 ys.length c2,.slice (some ⟨g2,o2,none⟩) 8 c3,.slice a4 16 c4]);obtain ⟨⟨u0,u1,u2⟩,RU,FU,GU⟩:=ziz HH.out.k p0;obtain ⟨⟨v0,v1,v2⟩,RV,FV,GV⟩:=ziz HH.out.k p1;obtain ⟨ub,ua,un,uc,ut,hu0,hu1,hu2⟩:∃ ub ua un uc ut,u0=.bool ub/\u1=.slice ua un uc/\u2=.string ut:=by
   obtain ⟨q0,⟨sa',sc',q1,-⟩,q2⟩:=RU;exact ⟨_,_,_,_,_,q0,q1,q2⟩
  obtain ⟨vb,va,vn,vc,vt,hv0,hv1,hv2⟩:∃ ub ua un uc ut,v0=.bool ub/\v1=.slice ua un uc/\v2=.string ut:=by
   obtain ⟨q0,⟨sa',sc',q1,-⟩,q2⟩:=RV;exact ⟨_,_,_,_,_,q0,q1,q2⟩
  subst hu0 hu1 hu2 hv0 hv1 hv2;rw [h16] at FU GU FV GV;have HF0:=hide FU;have HF1:=hide FV;have HG0:=hide GU;have HG1:=hide GV;have HRU:=hide (And.intro RU RV);have CB:=hide (fun (p:Int) W=>zhg p (.slice a1 xs.length c1) (.slice a2 ys.length c2) (.slice (some ⟨g2,o2,none⟩) 8 c3) a4 c4 W);clear hB hX hb h1 h2 hcp h r0 r1 r2 kp0 kp1 hpl hR qh RU RV FU FV GU GV h8 h16;by_cases hkd:kd=kind
  rotate_left
  ·have hkb:(kd != kind)=true:=by simp [hkd]
   rw [if_neg hkd];go_enter Tryz.func133,Tryz.ntmps133
   go_wp2_with fail
   refine (CH.out _).mono ?_;rintro e w1 ⟨rfl,rfl⟩;go_wp2;go_ret;exact ⟨_,rfl,HNIL.out _,HB0.out _ _⟩
  subst hkd;rw [if_pos rfl];have mk:∀ W:World,(Instr.makeSlice 33 (.int .i64 2) (.int .i64 2)).run Tryz.prog W=.ok (.slice (some ⟨W.heap.size,0,none⟩) 2 2) (W.alloc (.cells #[.bool false,.slice none 0 0,.string ⟨#[]⟩,.bool false,.slice none 0 0,.string ⟨#[]⟩] 74)):=fun W=>by
   have:=zkq 2 (by decide) W;rw [show madeCells #[.bool false,.slice none 0 0,.string ⟨#[]⟩] (2 * 3)=zbw (.bool ub,.slice ua un uc,.string ut) (.bool vb,.slice va vn vc,.string vt) 0 from Array.toList_inj.1 (by rw [zea];rfl)] at this;exact this
  go_enter Tryz.func133,Tryz.ntmps133
  go_wp2_with fail
  refine (CH.out _).mono ?_;rintro e w1 ⟨rfl,rfl⟩;have HBOX:Hid (BoR w (((w.alloc (.cells #[.slice a1 xs.length c1,.slice a2 ys.length c2,.slice (some ⟨g2,o2,none⟩) 8 c3,.slice a4 16 c4] 35)).alloc (.cells #[.slice a1 xs.length c1,.slice a2 ys.length c2,.slice (some ⟨g2,o2,none⟩) 8 c3,.slice a4 16 c4] 35)).alloc (.cells #[.bool false,.slice none 0 0,.string ⟨#[]⟩,.bool false,.slice none 0 0,.string ⟨#[]⟩] 74)) #[.slice a1 xs.length c1,.slice a2 ys.length c2,.slice (some ⟨g2,o2,none⟩) 8 c3,.slice a4 16 c4] (zbw (.bool ub,.slice ua un uc,.string ut) (.bool vb,.slice va vn vc,.string vt) 0)):=by
   refine ⟨(HB0.out _ _).alloc (HB0.out #[.slice a1 xs.length c1,.slice a2 ys.length c2,.slice (some ⟨g2,o2,none⟩) 8 c3,.slice a4 16 c4] #[.slice a1 xs.length c1,.slice a2 ys.length c2,.slice (some ⟨g2,o2,none⟩) 8 c3,.slice a4 16 c4]).size _,((AtC.new w 35 _).alloc _).alloc _,?_⟩;have:=AtC.new ((w.alloc (.cells #[.slice a1 xs.length c1,.slice a2 ys.length c2,.slice (some ⟨g2,o2,none⟩) 8 c3,.slice a4 16 c4] 35)).alloc (.cells #[.slice a1 xs.length c1,.slice a2 ys.length c2,.slice (some ⟨g2,o2,none⟩) 8 c3,.slice a4 16 c4] 35)) 74 #[.bool false,.slice none 0 0,.string ⟨#[]⟩,.bool false,.slice none 0 0,.string ⟨#[]⟩];rw [World.size_alloc,World.size_alloc] at this;exact this
  go_wp2_with fail
  clear y0 y1 y2 CH HNIL HB0;go_loopw [38] (fun iv wr=>∃ q:Nat,q<=2/\iv=.int .i64 q/\Hid (BoR w wr #[.slice a1 xs.length c1,.slice a2 ys.length c2,.slice (some ⟨g2,o2,none⟩) 8 c3,.slice a4 16 c4] (zbw (.bool ub,.slice ua un uc,.string ut) (.bool vb,.slice va vn vc,.string vt) q))) (fun iv _=>2 - (intOf iv).toNat)
  case atStart=>exact ⟨0,by omega,rfl,HBOX.out⟩
  case round =>
   obtain ⟨q,hq,rfl,HS⟩:=hrel;clear HBOX mk;have hq3:q=0\/q=1\/q=2:=by omega
   rcases hq3 with rfl | rfl | rfl
   ·skip
    have y1:wr.cell? ⟨gp,op,none⟩=some (.int .i64 p0):=HP0.out _ HS.out.b;obtain ⟨z0,z1,z2,z3⟩:=AtC.four HS.out.d
    cases hb:inB p0 1 16 with
    | false =>
     have HZ:=hide (HF0.out hb);have CB2:=hide (fun W=>CB.out p0 W);rw [hb] at CB2;clear hb;go_wp2_with fail
     refine (CB2.out _).mono ?_;rintro e w5 ⟨rfl,rfl⟩;have HS2:=hide (HS.out.below ((Below.refl _ wr).alloc nR (.cells #[.slice a1 xs.length c1,.slice a2 ys.length c2,.slice (some ⟨g2,o2,none⟩) 8 c3,.slice a4 16 c4] 35)));clear z0 z1 z2 z3 y1;go_wp2;go_roundw
     case rel =>
      refine ⟨1,by omega,rfl,hide ?_⟩;have:=HS2.out;rw [show zbw (.bool ub,.slice ua un uc,.string ut) (.bool vb,.slice va vn vc,.string vt) 1=zbw (.bool ub,.slice ua un uc,.string ut) (.bool vb,.slice va vn vc,.string vt) 0 from by have:=HZ.out;simp only [Prod.mk.injEq] at this;obtain ⟨q0,q1,q2⟩:=this;simp only [zbw,q0,q1,q2]];exact this
     case measure=>simp [intOf]
    | true =>
     obtain ⟨jb,gb,ob,cb,hpj,hjb,eb,hgb,b0,b1,b2⟩:=HG0.out hb;simp only [Value.slice.injEq,true_and] at eb;obtain ⟨rfl,-⟩:=eb;have CB2:=hide (fun W=>CB.out p0 W);rw [hb] at CB2;clear hb;subst hpj;have jb16:jb < 16:=by omega
     have hwj2:IntKind.i64.wrap (jb:Int)=(jb:Int):=wrap_small _ (by omega) (by omega);have jb0:(0:Int)<=(jb:Int):=by omega
     have jb1:(jb:Int) < 16:=by omega
     go_wp2_with fail
     refine (CB2.out _).mono ?_;rintro e w5 ⟨rfl,rfl⟩;obtain ⟨w5,hw5⟩:∃ w5,wr.alloc (.cells #[.slice a1 xs.length c1,.slice a2 ys.length c2,.slice (some ⟨g2,o2,none⟩) 8 c3,.slice (some ⟨gb,ob,none⟩) 16 c4] 35)=w5:=⟨_,rfl⟩
     have HS2:Hid (BoR w w5 #[.slice a1 xs.length c1,.slice a2 ys.length c2,.slice (some ⟨g2,o2,none⟩) 8 c3,.slice (some ⟨gb,ob,none⟩) 16 c4] (zbw (.bool ub,.slice ua un uc,.string ut) (.bool vb,.slice va vn vc,.string vt) 0)):=by rw [← hw5];exact HS.out.below ((Below.refl _ wr).alloc nR _)
     have d0:=(HS2.out.b.cell (p:=⟨gb,ob+jb * 3,none⟩) hgb).trans b0;have d1:=(HS2.out.b.cell (p:=⟨gb,ob+jb * 3+1,none⟩) hgb).trans b1;have d2:=(HS2.out.b.cell (p:=⟨gb,ob+jb * 3+2,none⟩) hgb).trans b2;have z3:w5.cell? ⟨w.heap.size,3,none⟩=some (.slice (some ⟨gb,ob,none⟩) 16 c4):=HS2.out.d.cell 3;rw [hw5];clear hw5 b0 b1 b2 y1 z0 z1 z2 HS CB2;have k0:w5.cell? ⟨w.heap.size+1+1,0,none⟩=some (.bool false):=HS2.out.l.cell 0;have k1:w5.cell? ⟨w.heap.size+1+1,1,none⟩=some (.slice none 0 0):=HS2.out.l.cell 1;have k2:w5.cell? ⟨w.heap.size+1+1,2,none⟩=some (.string ⟨#[]⟩):=HS2.out.l.cell 2;have f0:=HS2.out.l.frozen 0;have f1:=HS2.out.l.frozen 1;have f2:=HS2.out.l.frozen 2;have l5:w.heap.size+1+1 < w5.heap.size:=HS2.out.l.lt;have hgb2:¬ gb=w.heap.size+1+1:=by omega
     have HS3:=hide (HS2.out.set3 0 (.bool ub) (.slice ua un uc) (.string ut));rw [cellsJ_1 (.bool ub,.slice ua un uc,.string ut) (.bool vb,.slice va vn vc,.string vt)] at HS3;clear HS2;go_wp2;go_roundw
     case rel=>exact ⟨1,by omega,rfl,HS3.out⟩
     case measure=>simp [intOf]
   ·skip
    have y1:wr.cell? ⟨gp,op+1,none⟩=some (.int .i64 p1):=HP1.out _ HS.out.b;obtain ⟨z0,z1,z2,z3⟩:=AtC.four HS.out.d
    cases hb:inB p1 1 16 with
    | false =>
     have HZ:=hide (HF1.out hb);have CB2:=hide (fun W=>CB.out p1 W);rw [hb] at CB2;clear hb;go_wp2_with fail
     refine (CB2.out _).mono ?_;rintro e w5 ⟨rfl,rfl⟩;have HS2:=hide (HS.out.below ((Below.refl _ wr).alloc nR (.cells #[.slice a1 xs.length c1,.slice a2 ys.length c2,.slice (some ⟨g2,o2,none⟩) 8 c3,.slice a4 16 c4] 35)));clear z0 z1 z2 z3 y1;go_wp2;go_roundw
     case rel =>
      refine ⟨2,by omega,rfl,hide ?_⟩;have:=HS2.out;rw [show zbw (.bool ub,.slice ua un uc,.string ut) (.bool vb,.slice va vn vc,.string vt) 2=zbw (.bool ub,.slice ua un uc,.string ut) (.bool vb,.slice va vn vc,.string vt) 1 from by have:=HZ.out;simp only [Prod.mk.injEq] at this;obtain ⟨q0,q1,q2⟩:=this;simp only [zbw,q0,q1,q2]];exact this
     case measure=>simp [intOf]
    | true =>
     obtain ⟨jb,gb,ob,cb,hpj,hjb,eb,hgb,b0,b1,b2⟩:=HG1.out hb;simp only [Value.slice.injEq,true_and] at eb;obtain ⟨rfl,-⟩:=eb;have CB2:=hide (fun W=>CB.out p1 W);rw [hb] at CB2;clear hb;subst hpj;have jb16:jb < 16:=by omega
     have hwj2:IntKind.i64.wrap (jb:Int)=(jb:Int):=wrap_small _ (by omega) (by omega);have jb0:(0:Int)<=(jb:Int):=by omega
     have jb1:(jb:Int) < 16:=by omega
     go_wp2_with fail
     refine (CB2.out _).mono ?_;rintro e w5 ⟨rfl,rfl⟩;obtain ⟨w5,hw5⟩:∃ w5,wr.alloc (.cells #[.slice a1 xs.length c1,.slice a2 ys.length c2,.slice (some ⟨g2,o2,none⟩) 8 c3,.slice (some ⟨gb,ob,none⟩) 16 c4] 35)=w5:=⟨_,rfl⟩
     have HS2:Hid (BoR w w5 #[.slice a1 xs.length c1,.slice a2 ys.length c2,.slice (some ⟨g2,o2,none⟩) 8 c3,.slice (some ⟨gb,ob,none⟩) 16 c4] (zbw (.bool ub,.slice ua un uc,.string ut) (.bool vb,.slice va vn vc,.string vt) 1)):=by rw [← hw5];exact HS.out.below ((Below.refl _ wr).alloc nR _)
     have d0:=(HS2.out.b.cell (p:=⟨gb,ob+jb * 3,none⟩) hgb).trans b0;have d1:=(HS2.out.b.cell (p:=⟨gb,ob+jb * 3+1,none⟩) hgb).trans b1;have d2:=(HS2.out.b.cell (p:=⟨gb,ob+jb * 3+2,none⟩) hgb).trans b2;have z3:w5.cell? ⟨w.heap.size,3,none⟩=some (.slice (some ⟨gb,ob,none⟩) 16 c4):=HS2.out.d.cell 3;rw [hw5];clear hw5 b0 b1 b2 y1 z0 z1 z2 HS CB2;have k0:w5.cell? ⟨w.heap.size+1+1,3,none⟩=some (.bool false):=HS2.out.l.cell 3;have k1:w5.cell? ⟨w.heap.size+1+1,4,none⟩=some (.slice none 0 0):=HS2.out.l.cell 4;have k2:w5.cell? ⟨w.heap.size+1+1,5,none⟩=some (.string ⟨#[]⟩):=HS2.out.l.cell 5;have f0:=HS2.out.l.frozen 3;have f1:=HS2.out.l.frozen 4;have f2:=HS2.out.l.frozen 5;have l5:w.heap.size+1+1 < w5.heap.size:=HS2.out.l.lt;have hgb2:¬ gb=w.heap.size+1+1:=by omega
     have HS3:=hide (HS2.out.set3 3 (.bool vb) (.slice va vn vc) (.string vt));rw [cellsJ_2 (.bool ub,.slice ua un uc,.string ut) (.bool vb,.slice va vn vc,.string vt)] at HS3;clear HS2;go_wp2;go_roundw
     case rel=>exact ⟨2,by omega,rfl,HS3.out⟩
     case measure=>simp [intOf]
   ·go_wp2;go_ret;exact ⟨_,rfl,r3_two HS.out.l (KB.bel HRU.out.1 HS.out.b nR) (KB.bel HRU.out.2 HS.out.b nR),HS.out.b⟩
theorem zdh (W:World){ops:Array Oper}{o:Oper}{a:Act}{K:Act->World->Prop}{Q:Exit->Act->World->Prop}{E:Prop}(hgd:o.guard=none)(s x:Operand)
  (ho:o.op=.call { callee:=.builtin .append,args:=#[s,x],argTypes:=#[72,72] }) (base:Nat) (v:Value) (l:List Sl) (hs:a.eval s=v) (hown:SOwns W base 100 v l) (hbase:base<=W.heap.size)
  (g:Nat) (nm:ByteArray) (io:Int) (hx:a.eval x=.slice (some ⟨g,0,none⟩) 1 1) (hc:AtC W g 100 #[.string nm,.int .i64 io]) (hl:l.length<=100000000000)
  (h:∀ v' w',SOwns w' base 100 v' (l ++ [(nm,io)])->W.grownBy w' v.ownBlock->(∀ k,v'.ownBlock=some k->v.ownBlock=some k\/W.heap.size<=k)->K (a.put o.dst v') w') :
  if Region.wanted o (yielded ops a.tmps)=true then Oper.wp Tryz.prog o a W K Q else E:=by
 obtain ⟨i0,hi,hz0,hz1,hz2⟩:=info_parts Tryz.i100;refine step_append_lies _ hgd s x 72 ho base 100 i0 _ 2 24 Tryz.u72 hi hz0 hz1 hz2 rfl (by decide) v l.length (sc l) hs hown ⟨g,0,none⟩ 1 1 [.string nm,.int .i64 io] hx rfl ?_ ?_ (by decide) ?_ ?_ hbase W.heap.size rfl ?_
 ·intro j u hj;have:=(hc.cell j).trans (show (#[.string nm,.int .i64 io]:Array Value)[j]?=some u by simpa using hj);by_cases e:j=0
  ·subst e;simpa [Addr.add] using this
  ·simpa [Addr.add,e] using this
 ·intro u hu;simp only [List.mem_cons,List.not_mem_nil,or_false] at hu;rcases hu with rfl | rfl<;>rfl
 ·unfold maxLen;omega
 ·omega
 ·intro g' cap w' hown' hgrow hat _;refine h _ w' ?_ hgrow fun k hk=>?_
  ·show w'.ownsRow base 100 2 _ (l ++ [(nm,io)]).length (sc (l ++ [(nm,io)]));rw [List.length_append,zib];exact hown'
  ·simp only [Value.ownBlock,Option.some.injEq] at hk;subst hk;rcases hat with hat | hat
   ·exact .inl hat
   ·exact .inr (by omega)
theorem nmdS_blk {is:List Ino}{bs:List Blk}(h:RD is bs)(x:Int):nmdS (blkAt bs x).2.1=nmd (blkAt bs x):=by
 unfold nmd
 split
 ·rfl
 ·rename_i e;have e:(blkAt bs x).1=false:=by simpa using e
  rcases zbr bs x with q | q
  ·rw [q];rfl
  ·rw [h.text _ q e];rfl
def nmdB (l:List Blk):List Sl:=l.flatMap fun b=>nmdS b.2.1
theorem zlz {is:List Ino}{bs:List Blk}(h:RD is bs)(i:Int):nmdB (za6 is bs i 2)=named is bs i:=by
 unfold named za6 nmdB
 split
 ·unfold nmdP;rw [List.flatMap_map];congr 1
  funext x
  exact nmdS_blk h x
 ·rfl
theorem zer {is:List Ino}{bs:List Blk}(h:RD is bs)(i k:Int):(za6 is bs i k).length<=2/\∀ b∈za6 is bs i k,b.2.1.length<=4/\b.2.2.size<=16:=by
 unfold za6
 split
 ·refine ⟨?_,fun b hb=>?_⟩
  ·rw [List.length_map];rcases zbj (is:=is) i with ⟨-,e⟩ | ⟨q,hq,-,e⟩
   ·rw [e];simp
   ·rw [e,h.two q hq];exact Nat.le_refl _
  ·obtain ⟨x,-,rfl⟩:=List.mem_map.1 hb;refine ⟨h.blk4 x,?_⟩;rcases zbr bs x with e | e
   ·rw [e];exact Nat.zero_le _
   ·exact h.tx _ e
 ·exact ⟨by simp,fun b hb=>by cases hb⟩
theorem zng {l:List Blk}{q:Nat}(h:q < l.length):nmdB (l.take (q+1))=nmdB (l.take q) ++ nmdS l[q].2.1:=by
 rw [List.take_succ_eq_append_getElem h];unfold nmdB;rw [List.flatMap_append,List.flatMap_cons,List.flatMap_nil,List.append_nil]
theorem zee (i:Int)(dx dy iv bv:Value)(xs ys:List Bool)(is:List Ino)(bs:List Blk)(w:World)(h:DR w dx dy iv bv xs ys is bs)(hR:RD is bs) :
  Calls Tryz.prog 100 #[.agg #[dx,dy,iv,bv],.int .i64 i] w fun e w'=>∃ v,e=.returned v/\SOwns w' w.heap.size 100 v (named is bs i)/\Below w.heap.size w w':=by
 have CB:=hide (zeq i 2 dx dy iv bv xs ys is bs (w.alloc (.cells #[dx,dy,iv,bv] 35)) (h.alloc _) hR (by decide));obtain ⟨HL1,HL2⟩:=zer hR i 2;have HBL:=hide HL2;rw [← zlz hR i];obtain ⟨a1,c1,a2,c2,a3,c3,a4,c4,rfl,rfl,rfl,rfl⟩:=h.form;obtain ⟨BL,hBL⟩:∃ l,za6 is bs i 2=l:=⟨_,rfl⟩
 rw [hBL] at CB HBL HL1 ⊢;obtain ⟨RES,hRES⟩:∃ l,nmdB BL=l:=⟨_,rfl⟩
 rw [hRES];have HRES:=hide hRES;clear h hR HL2 hBL hRES;go_enter Tryz.func100,Tryz.ntmps100
 go_wp2_with fail
 refine CB.out.mono ?_;rintro e w1 ⟨lv,rfl,R1,B1⟩;have HB1:Hid (Below w.heap.size w w1):=((Below.refl _ w).alloc nR _).trans (B1.mono (by simp));obtain ⟨la,lc,rfl,-,hcl⟩:=R1;have HCL:=hide hcl;clear B1 hcl CB;go_wp2_with fail
 go_loopw [5,14] (fun sv kv wr=>∃ (s':Value) (q:Nat),s'=sv/\q<=BL.length/\kv=.int .i64 q/\Hid (SOwns wr w1.heap.size 100 s' (nmdB (BL.take q))/\Below w1.heap.size w1 wr/\(nmdB (BL.take q)).length<=4 * q)) (fun _ kv _=>BL.length - (intOf kv).toNat)
 case atStart=>exact ⟨_,0,rfl,Nat.zero_le _,rfl,SOwns.nil _ _ _,Below.refl _ _,by simp [nmdB]⟩
 case round =>
  obtain ⟨sv,q,hsv,hq,rfl,HR⟩:=hrel;subst hsv;have q0:(0:Int)<=(q:Int):=by omega
  by_cases hlt:q < BL.length
  rotate_left
  ·have q1:¬ ((q:Int) < (BL.length:Int)):=by omega
   go_wp2;go_ret;refine ⟨_,rfl,?_,HB1.out.trans (HR.out.2.1.mono HB1.out.size)⟩;have:=HR.out.1;rw [List.take_of_length_le (by omega),HRES.out] at this;exact this.base_le HB1.out.size
  have q1:(q:Int) < (BL.length:Int):=by omega
  have HT:=hide (zng hlt);have HB4:=hide (HBL.out _ (List.getElem_mem hlt)).1;obtain ⟨gb,ob,⟨t0,t1,t2⟩,rfl,hgb,b0,b1,b2,r0,r1,r2⟩:=HCL.out q hlt;simp only at b0 b1 b2 r0 r1 r2;subst r0 r2;obtain ⟨bd,hbd⟩:∃ X,BL[q].1=X:=⟨_,rfl⟩
  obtain ⟨bss,hbss⟩:∃ X,BL[q].2.1=X:=⟨_,rfl⟩
  obtain ⟨btx,hbtx⟩:∃ X,BL[q].2.2=X:=⟨_,rfl⟩
  rw [hbd] at b0;rw [hbss] at r1 HT HB4;rw [hbtx] at b2;obtain ⟨sa,sc',rfl,-,hcs⟩:=r1;have HCS:=hide hcs
  replace b0:=(HR.out.2.1.cell (p:=⟨gb,ob+q * 3,none⟩) hgb).trans b0
  replace b1:=(HR.out.2.1.cell (p:=⟨gb,ob+q * 3+1,none⟩) hgb).trans b1
  replace b2:=(HR.out.2.1.cell (p:=⟨gb,ob+q * 3+2,none⟩) hgb).trans b2
  have hgw:¬ gb=wr.heap.size:=by have:=HR.out.2.1.size;omega
  have HAL:Hid (Below wr.heap.size wr (wr.alloc (.cells #[.bool bd,.slice sa bss.length sc',.string btx] 74))):=(Below.refl _ wr).alloc nR _;have HR2:Hid (SOwns (wr.alloc (.cells #[.bool bd,.slice sa bss.length sc',.string btx] 74)) w1.heap.size 100 sv (nmdB (BL.take q) ++ nmdS (bss.take 0))/\Below w1.heap.size w1 (wr.alloc (.cells #[.bool bd,.slice sa bss.length sc',.string btx] 74))/\(nmdB (BL.take q) ++ nmdS (bss.take 0)).length<=4 * q+0):=by
   have e:nmdS (bss.take 0)=[]:=by simp [nmdS]
   rw [e,List.append_nil];exact ⟨HR.out.1.alloc _,HR.out.2.1.alloc HR.out.2.1.size _,HR.out.2.2⟩
  clear hbd hbss hbtx hcs;obtain ⟨W2,hW2⟩:∃ W2,wr.alloc (.cells #[.bool bd,.slice sa bss.length sc',.string btx] 74)=W2:=⟨_,rfl⟩
  have x1:W2.cell? ⟨wr.heap.size,1,none⟩=some (.slice sa bss.length sc'):=by rw [← hW2];exact (AtC.new wr 74 _).cell 1
  rw [hW2] at HR2;go_wp2_with fail
  clear b0 b1 b2 HR hW2 x1 HAL;go_loopw [5,21] (fun sv kv wr=>∃ (s':Value) (t:Nat),s'=sv/\t<=bss.length/\kv=.int .i64 t/\Hid (SOwns wr w1.heap.size 100 s' (nmdB (BL.take q) ++ nmdS (bss.take t))/\Below w1.heap.size w1 wr/\(nmdB (BL.take q) ++ nmdS (bss.take t)).length<=4 * q+t)) (fun _ kv _=>bss.length - (intOf kv).toNat)
  case atStart=>exact ⟨_,0,rfl,Nat.zero_le _,rfl,HR2.out⟩
  case round =>
   obtain ⟨sv',t,hsv,ht,rfl,HS⟩:=hrel;subst hsv;clear HR2;have t0:(0:Int)<=(t:Int):=by omega
   have hq2:q < 2:=by omega
   by_cases htl:t < bss.length
   rotate_left
   ·have t1:¬ ((t:Int) < (bss.length:Int)):=by omega
    go_wp2;go_roundw
    case rel =>
     refine ⟨_,q+1,rfl,by omega,by go_num,?_,HS.out.2.1,?_⟩
     ·have:=HS.out.1;rw [List.take_of_length_le (show bss.length<=t by omega),← HT.out] at this;exact this
     ·have:=HS.out.2.2;rw [List.take_of_length_le (show bss.length<=t by omega),← HT.out] at this;have:=HB4.out;omega
    case measure=>simp [intOf];omega
   have t1:(t:Int) < (bss.length:Int):=by omega
   have HTS:=hide (zfk htl);obtain ⟨gs,os,rfl,hgs,ks0,ks1⟩:=HCS.out t htl;obtain ⟨⟨sn,si⟩,hsn⟩:∃ X,bss[t]=X:=⟨_,rfl⟩
   rw [hsn] at ks0 ks1 HTS;simp only at ks0 ks1
   replace ks0:=(HS.out.2.1.cell (p:=⟨gs,os+t * 2,none⟩) hgs).trans ks0
   replace ks1:=(HS.out.2.1.cell (p:=⟨gs,os+t * 2+1,none⟩) hgs).trans ks1
   have hgsw:¬ gs=wr.heap.size:=by have:=HS.out.2.1.size;omega
   clear hsn;have hb4:=HB4.out;by_cases hse:sn=⟨#[]⟩
   ·subst hse;have HS2:Hid (SOwns (wr.alloc (.cells #[.string ⟨#[]⟩,.int .i64 si] 100)) w1.heap.size 100 sv' (nmdB (BL.take q) ++ nmdS (bss.take (t+1)))/\Below w1.heap.size w1 (wr.alloc (.cells #[.string ⟨#[]⟩,.int .i64 si] 100))/\(nmdB (BL.take q) ++ nmdS (bss.take (t+1))).length<=4 * q+(t+1)):=by
     have e:=HTS.out;rw [if_pos rfl,List.append_nil] at e;rw [e];exact ⟨HS.out.1.alloc _,HS.out.2.1.alloc HS.out.2.1.size _,by have:=HS.out.2.2;omega⟩
    go_wp2;go_roundw
    case rel=>exact ⟨_,t+1,rfl,by omega,by go_num,HS2.out⟩
    case measure=>simp [intOf];omega
   have hse2:(sn.toList == ([]:List UInt8))=false:=zc2 hse;have hse3:(sn.toList != ([]:List UInt8))=true:=by simp [bne,hse2]
   have HAL2:Hid (Below w1.heap.size w1 ((wr.alloc (.cells #[.string sn,.int .i64 si] 100)).alloc (.cells #[.string sn,.int .i64 si] 100))/\SOwns ((wr.alloc (.cells #[.string sn,.int .i64 si] 100)).alloc (.cells #[.string sn,.int .i64 si] 100)) w1.heap.size 100 sv' (nmdB (BL.take q) ++ nmdS (bss.take t))/\AtC ((wr.alloc (.cells #[.string sn,.int .i64 si] 100)).alloc (.cells #[.string sn,.int .i64 si] 100)) (wr.heap.size+1) 100 #[.string sn,.int .i64 si]):=by
    have a:=AtC.new (wr.alloc (.cells #[.string sn,.int .i64 si] 100)) 100 #[.string sn,.int .i64 si];rw [World.size_alloc] at a;have sz:=HS.out.2.1.size;exact ⟨(HS.out.2.1.alloc sz _).alloc (by simp;omega) _,(HS.out.1.alloc _).alloc _,a⟩
   have HSZ:Hid (w1.heap.size<=((wr.alloc (.cells #[.string sn,.int .i64 si] 100)).alloc (.cells #[.string sn,.int .i64 si] 100)).heap.size):=HAL2.out.1.size;have HTL:Hid ((nmdB (BL.take q) ++ nmdS (bss.take t)).length<=100000000000):=by have:=HS.out.2.2;show _<=_;omega
   go_wp2_with (at_builtin;refine wpList_step fun K' hK'=>?_;refine zdh _ rfl (.tmp 28) (.tmp 30) rfl w1.heap.size sv' _ rfl HAL2.out.2.1 HSZ.out (wr.heap.size+1) sn si rfl HAL2.out.2.2 HTL.out ?_;intro v12 w12 T12 G12 V12;refine hK' _ _ ?_;have HR12:=hide (And.intro T12 (And.intro G12 V12));clear T12 G12 V12 hK')
   have HS2:Hid (SOwns w12 w1.heap.size 100 v12 (nmdB (BL.take q) ++ nmdS (bss.take (t+1)))/\Below w1.heap.size w1 w12/\(nmdB (BL.take q) ++ nmdS (bss.take (t+1))).length<=4 * q+(t+1)):=by
    have e:=HTS.out;rw [if_neg hse] at e;rw [e,← List.append_assoc];refine ⟨HR12.out.1,HAL2.out.1.grown HR12.out.2.1 HSZ.out (fun k hk=>(HAL2.out.2.1.lt k hk).1),?_⟩;have:=HS.out.2.2;rw [List.length_append];simp;simp at this;omega
   go_roundw
   case rel=>exact ⟨_,t+1,rfl,by omega,by go_num,HS2.out⟩
   case measure=>simp [intOf];omega
namespace Kit
structure SlR (w wr:World) (D:Array Value) (bw:Nat) (lv:Value) (l:List Sl):Prop where
 o:SOwns wr (w.heap.size+1) 100 lv l
 n:∀ k,lv.ownBlock=some k->k≠bw
 b:Below w.heap.size w wr
 d:AtC wr w.heap.size 35 D
theorem SlR.below {w wr wr':World}{D:Array Value}{bw:Nat}{lv:Value}{l:List Sl}(h:SlR w wr D bw lv l)(hb:Below wr.heap.size wr wr'):SlR w wr' D bw lv l :=
 ⟨h.o.below hb nR,h.n,h.b.trans (hb.mono h.b.size),h.d.over hb⟩
theorem SlR.app {w wr wr':World}{D:Array Value}{bw:Nat}{lv lv':Value}{l l':List Sl}(h:SlR w wr D bw lv l)(ho:SOwns wr' (w.heap.size+1) 100 lv' l')(hg:wr.grownBy wr' lv.ownBlock)(hv:∀ k,lv'.ownBlock=some k->lv.ownBlock=some k\/wr.heap.size<=k)(hbw:bw < wr.heap.size):SlR w wr' D bw lv' l' :=
 ⟨ho,fun k hk=>(hv k hk).elim (h.n k) (fun e=>by omega),h.b.grown hg h.b.size (fun k hk=>by have:=(h.o.lt k hk).1;omega),h.d.grown hg (fun e=>by have:=(h.o.lt _ e).1;omega)⟩
theorem SlR.turn {w wr:World}{D:Array Value}{bw bw':Nat}{lv:Value}{l:List Sl}(h:SlR w wr D bw lv l)(hb:∀ k,lv.ownBlock=some k->k≠bw'):SlR w wr D bw' lv l:=⟨h.o,hb,h.b,h.d⟩
end Kit
theorem zfm (x:Int)(dx dy iv bv:Value)(xs ys:List Bool)(is:List Ino)(bs:List Blk)(w:World)(h:DR w dx dy iv bv xs ys is bs)(hR:RD is bs) :
  Calls Tryz.prog 87 #[.agg #[dx,dy,iv,bv],.int .i64 x] w fun e w'=>∃ v,e=.returned v/\SOwns w' w.heap.size 100 v (named is bs x)/\Below w.heap.size w w':=by
 obtain ⟨a1,c1,a2,c2,a3,c3,a4,c4,rfl,rfl,rfl,rfl⟩:=h.form;have HH:=hide h;have hi:=hR.hi;have HR4:=hide hR;have HN0:Hid (SlR w ((w.alloc (.cells #[.slice a1 xs.length c1,.slice a2 ys.length c2,.slice a3 is.length c3,.slice a4 bs.length c4] 35)).alloc (.cells #[] 100)) #[.slice a1 xs.length c1,.slice a2 ys.length c2,.slice a3 is.length c3,.slice a4 bs.length c4] 0 (.slice (some ⟨w.heap.size+1,0,none⟩) 0 0) []):=by
  have l0:=SOwns.lit (w.alloc (.cells #[.slice a1 xs.length c1,.slice a2 ys.length c2,.slice a3 is.length c3,.slice a4 bs.length c4] 35)) (w.heap.size+1) 100 #[] [] rfl (by simp) (by decide);have e0:(w.alloc (.cells #[.slice a1 xs.length c1,.slice a2 ys.length c2,.slice a3 is.length c3,.slice a4 bs.length c4] 35)).heap.size=w.heap.size+1:=by simp
  rw [e0] at l0;exact ⟨l0,fun k hk=>by simp [Value.ownBlock] at hk;omega,((Below.refl _ w).alloc nR _).alloc (by simp) _,(AtC.new w 35 _).alloc _⟩
 have x2:((w.alloc (.cells #[.slice a1 xs.length c1,.slice a2 ys.length c2,.slice a3 is.length c3,.slice a4 bs.length c4] 35)).alloc (.cells #[] 100)).cell? ⟨w.heap.size,2,none⟩=some (.slice a3 is.length c3):=HN0.out.d.cell 2
 cases hin:inB x 1 is.length with
 | false =>
  have HIN:=hide hin;have e0:named is bs x=[]:=by unfold named;rw [zaz hin];rfl
  rw [e0];clear e0;clear hin h hi hR;go_enter Tryz.func87,Tryz.ntmps87
  go_wp2_with (go_at_call 80;refine (zam x 1 _ _).mono ?_;rintro e w7 ⟨rfl,rfl⟩;rw [HIN.out])
  go_ret;exact ⟨_,rfl,HN0.out.o.base_le (by omega),HN0.out.b⟩
 | true =>
  have HIN:=hide hin;obtain ⟨h1,h2⟩:=zao hin;obtain ⟨j,rfl⟩:∃ j:Nat,x=(j:Int)+1:=⟨(x - 1).toNat,by omega⟩
  have hj:j < is.length:=by omega
  have hj8:j < 8:=by omega
  have hnm:named is bs ((j:Int)+1)=if is[j].1=2 then nmdP bs is[j].2.2 else []:=by unfold named;rw [(zai hj).1,(zai hj).2]
  rw [hnm];clear hnm;have hwj:IntKind.i64.wrap (j:Int)=(j:Int):=wrap_small _ (by omega) (by omega);obtain ⟨qa,qc,qe,-,qh⟩:=h.i;simp only [Value.slice.injEq,true_and] at qe;obtain ⟨rfl,rfl⟩:=qe;obtain ⟨g2,o2,⟨t0,t1,t2⟩,rfl,hg2,r0,r1,r2,e0,e1,rr⟩:=qh j hj;have hpl:=Nat.le_of_eq (hR.two _ (List.getElem_mem hj));obtain ⟨⟨kd,ln,ps⟩,hX⟩:∃ X,is[j]=X:=⟨_,rfl⟩
  rw [hX] at e0 e1 rr hpl ⊢;simp only at e0 e1 rr r0 r1 r2 hpl;subst e0 e1;obtain ⟨sa,sc,rfl⟩:=rr.form;have HRR:=hide rr;have bW:=HN0.out.b;have y0:=(bW.cell (p:=⟨g2,o2+j * 3,none⟩) hg2).trans r0;have HY2:Hid (g2 < w.heap.size/\w.cell? ⟨g2,o2+j * 3+2,none⟩=some (.slice sa ps.length sc)):=⟨hg2,r2⟩
  have j0:(0:Int)<=(j:Int):=by omega
  have j1:(j:Int) < (is.length:Int):=by omega
  clear qh hX rr bW r0 r1 r2 hin h1 h2 h hi hR;by_cases hkd:kd=2
  rotate_left
  ·have hkb:(kd != 2)=true:=by simp [hkd]
   rw [if_neg hkd];go_enter Tryz.func87,Tryz.ntmps87
   go_wp2_with (go_at_call 80;refine (zam ((j:Int)+1) 1 _ _).mono ?_;rintro e w7 ⟨rfl,rfl⟩;rw [HIN.out])
   go_ret;exact ⟨_,rfl,HN0.out.o.base_le (by omega),HN0.out.b⟩
  subst hkd;rw [if_pos rfl];obtain ⟨RES,hRES⟩:∃ r,nmdP bs ps=r:=⟨_,rfl⟩
  rw [hRES];have HRES:=hide hRES;clear hRES;obtain ⟨W1,hW1⟩:∃ W1,((w.alloc (.cells #[.slice a1 xs.length c1,.slice a2 ys.length c2,.slice (some ⟨g2,o2,none⟩) is.length c3,.slice a4 bs.length c4] 35)).alloc (.cells #[] 100))=W1:=⟨_,rfl⟩
  rw [hW1] at HN0 x2 y0;go_enter Tryz.func87,Tryz.ntmps87
  go_wp2_with (go_at_call 80;refine (zam ((j:Int)+1) 1 _ _).mono ?_;rintro e w7 ⟨rfl,rfl⟩;rw [HIN.out])
  clear hW1 y0 x2;go_loopw [5,6] (fun x5 kk wr=>∃ (lv:Value) (l:List Sl) (q:Nat),lv=x5/\q<=ps.length/\kk=.int .i64 q/\Hid (SlR w wr #[.slice a1 xs.length c1,.slice a2 ys.length c2,.slice (some ⟨g2,o2,none⟩) is.length c3,.slice a4 bs.length c4] 0 lv l/\l.length<=4 * q/\l=nmdP bs (ps.take q))) (fun _ kk _=>ps.length - (intOf kk).toNat)
  case atStart=>exact ⟨_,[],0,rfl,Nat.zero_le _,rfl,HN0.out,by decide,by simp [nmdP]⟩
  case round =>
   obtain ⟨lv,l,q,hlv,hq,rfl,HR⟩:=hrel;subst hlv;obtain ⟨wo,hwo⟩:∃ wo,wo=wr:=⟨_,rfl⟩
   subst hwo;clear HN0;have q0:(0:Int)<=(q:Int):=by omega
   have x2:wo.cell? ⟨w.heap.size,2,none⟩=some (.slice (some ⟨g2,o2,none⟩) is.length c3):=HR.out.1.d.cell 2;have y2:wo.cell? ⟨g2,o2+j * 3+2,none⟩=some (.slice sa ps.length sc):=(HR.out.1.b.cell (p:=⟨g2,o2+j * 3+2,none⟩) HY2.out.1).trans HY2.out.2;by_cases hlt:q < ps.length
   rotate_left
   ·have q1:¬ ((q:Int) < (ps.length:Int)):=by omega
    go_wp2;go_ret;refine ⟨_,rfl,?_,HR.out.1.b⟩;have e1:=HR.out.2.2;rw [List.take_of_length_le (by omega),HRES.out] at e1;rw [← e1];exact HR.out.1.o.base_le (by omega)
   have q1:(q:Int) < (ps.length:Int):=by omega
   obtain ⟨pa',pc',e1,hcp⟩:=HRR.out;simp only [Value.slice.injEq,true_and] at e1;obtain ⟨rfl,rfl⟩:=e1;obtain ⟨gp,op,rfl,hgp,kp⟩:=hcp q hlt;obtain ⟨Pn,hPn⟩:∃ Pn,ps[q]=Pn:=⟨_,rfl⟩
   rw [hPn] at kp;have HTK:=hide (zfj (bs:=bs) hlt);rw [hPn] at HTK;have CB:=hide (fun (W:World) (hd:Below w.heap.size w W)=>zfa Pn (.slice a1 xs.length c1) (.slice a2 ys.length c2) (.slice (some ⟨g2,o2,none⟩) is.length c3) (.slice a4 bs.length c4) xs ys is bs w W HH.out hd (by rw [HR4.out.hb];decide));have hb4:(blkAt bs Pn).2.1.length<=4:=HR4.out.blk4 Pn;obtain ⟨⟨bd,bss,btx⟩,hBD⟩:∃ X,blkAt bs Pn=X:=⟨_,rfl⟩
   obtain ⟨F,hF⟩:∃ F,inB Pn 1 bs.length=F:=⟨_,rfl⟩
   rw [hBD,hF] at CB;rw [hBD] at hb4 HTK;simp only at hb4;have HWR:Hid (∀ W,Below wo.heap.size wo W->SlR w W #[.slice a1 xs.length c1,.slice a2 ys.length c2,.slice (some ⟨g2,o2,none⟩) is.length c3,.slice a4 bs.length c4] 0 lv l/\W.cell? ⟨gp,op+q,none⟩=some (.int .i64 Pn)/\W.cell? ⟨g2,o2+j * 3+2,none⟩=some (.slice (some ⟨gp,op,none⟩) ps.length sc)):=fun W b=>by
    have r2:=HR.out.1.below b;exact ⟨r2,(r2.b.cell (p:=⟨gp,op+q,none⟩) hgp).trans kp,(r2.b.cell (p:=⟨g2,o2+j * 3+2,none⟩) HY2.out.1).trans HY2.out.2⟩
   clear hPn kp hcp hBD hF;go_upto_region 7 with fail
   clear x2 y2;go_cut [7,8] from 28 to 80 (fun bv ok wx=>∃ (bw:Nat) (ba:Option Addr) (bc:Nat),bv=.pointer (some ⟨bw,0,none⟩)/\ok=.bool F/\AtC wx bw 74 #[.bool bd,.slice ba bss.length bc,.string btx]/\RSl w (.slice ba bss.length bc) bss/\Below wo.heap.size wo wx/\wo.heap.size<=bw)
   case first =>
    refine zad (by kernel_rfl) [0,1,2,3,4,5,6,7,8,9,10,11,12,13,14,15] [16,17] [([0,1,2,3,4,5,6,7,8,9,10,11,12,13,15],[[14,16,17],[16,14,17]])] (fun i=>match i with|0=>.const [] (.agg #[.slice a1 xs.length c1,.slice a2 ys.length c2,.slice (some ⟨g2,o2,none⟩) is.length c3,.slice a4 bs.length c4])|1=>.const [] (.pointer (some ⟨w.heap.size,2,none⟩))|2=>.const [1] (.slice (some ⟨g2,o2,none⟩) is.length c3)|3=>.const [] (.int .i64 ((j:Int)+1))|4=>.const [3] (.int .i64 (j:Int))|5=>.const [2,4] (.pointer (some ⟨g2,o2+j * 3,none⟩))|6=>.const [5] (.pointer (some ⟨g2,o2+j * 3+2,none⟩))|7=>.const [6] (.slice (some ⟨gp,op,none⟩) ps.length sc)|8=>.const [] (.int .i64 (q:Int))|9=>.const [7,8] (.pointer (some ⟨gp,op+q,none⟩))|10=>.const [9] (.int .i64 Pn)|11=>MkT2 [0,10] (BlkR w bd btx bss F) BlkR.below|12=>MkMv 11|13=>MkFs 12|14=>MkSd 12|15=>MkW 74 #[.bool false,.slice none 0 0,.string ⟨#[]⟩]|_=>.triv) (fun x=>⟨List.toArray ((.agg #[.slice a1 xs.length c1,.slice a2 ys.length c2,.slice (some ⟨g2,o2,none⟩) is.length c3,.slice a4 bs.length c4])::(.int .i64 (↑j+1))::(.pointer (some ⟨w.heap.size,0,none⟩))::(undef)::(.slice none 0 0)::(lv)::(.int .i64 ↑q)::(x 15)::(u8)::(u9)::(.slice (some ⟨w.heap.size+1,0,none⟩) 0 0)::(.int .i64 (↑j+1))::(.pointer (some ⟨w.heap.size,2,none⟩))::(.slice (some ⟨g2,o2,none⟩) is.length c3)::(.int .i64 ↑is.length)::(.bool true)::(.bool false)::(.bool false)::(.pointer (some ⟨w.heap.size,2,none⟩))::(.slice (some ⟨g2,o2,none⟩) is.length c3)::(.int .i64 (↑j+1))::(.int .i64 ↑j)::(.pointer (some ⟨g2,o2+j * 3,none⟩))::(.pointer (some ⟨g2,o2+j * 3,none⟩))::(.int .i64 2)::(.bool false)::(.bool false)::(undef)::(.int .i64 ↑q)::(.pointer (some ⟨w.heap.size,2,none⟩))::(.slice (some ⟨g2,o2,none⟩) is.length c3)::(.int .i64 (↑j+1))::(.int .i64 ↑j)::(.pointer (some ⟨g2,o2+j * 3,none⟩))::(.pointer (some ⟨g2,o2+j * 3+2,none⟩))::(.slice (some ⟨gp,op,none⟩) ps.length sc)::(.int .i64 ↑ps.length)::(.bool true)::(u38)::(u39)::(x 12)::(x 0)::(x 1)::(x 2)::(x 3)::(x 4)::(x 5)::(x 6)::(x 7)::(x 8)::(x 9)::(x 10)::(x 11)::(x 13)::(x 14)::(u55)::(u56)::(u57)::(u58)::(u59)::(u60)::(u61)::(u62)::(u63)::(u64)::(u65)::(u66)::(u67)::(u68)::(u69)::(u70)::(u71)::(u72)::(u73)::(u74)::(u75)::(u76)::(u77)::(u78)::(u79)::(u80)::(undef)::[]),[]⟩) (fun i=>match i with|0=>u41|1=>u42|2=>u43|3=>u44|4=>u45|5=>u46|6=>u47|7=>u48|8=>u49|9=>u50|10=>u51|11=>u52|12=>u40|13=>u53|14=>u54|15=>u7|_=>undef) rfl (zae (by kernel_rfl) (by kernel_rfl)) (by kernel_rfl) (by kernel_rfl) (by kernel_rfl) rfl ?_ ?_ ?_
    ·intro jo hj so x iw W hd hp K hK;simp only [List.mem_cons,List.not_mem_nil,or_false] at hj;rcases hj with rfl|rfl|rfl|rfl|rfl|rfl|rfl|rfl|rfl|rfl|rfl|rfl|rfl|rfl|rfl|rfl<;>refine wpOp_step (o:=_) rfl fun K' hK'=>?_<;>have HK:=hide (fun (v:Value) (W':World) h1 h2=>hK' _ _ (hK v W' h1 h2))<;>simp only [upd,Nat.reduceEqDiff,if_true,if_false] at HK
     ·have bw:=zaa hp.bel;have k0:=(HWR.out W bw).1.d;obtain ⟨q5,q6,q7,q8⟩:=AtC.four k0;clear k0 bw;go_simp;exact HK.out _ _ bR rfl
     ·clear hK hK' hp hd;go_simp;exact HK.out _ _ bR rfl
     ·have e1:x 1=.pointer (some ⟨w.heap.size,2,none⟩):=hp.post 1 (hd 1 mz0);have bw:=zaa hp.bel;have q5:W.cell? ⟨w.heap.size,2,none⟩=some (.slice (some ⟨g2,o2,none⟩) is.length c3):=(HWR.out W bw).1.d.cell 2;clear bw;simp only [e1] at HK ⊢;go_simp;exact HK.out _ _ bR rfl
     ·clear hK hK' hp hd;go_simp;exact HK.out _ _ bR rfl
     ·have e3:x 3=.int .i64 ((j:Int)+1):=hp.post 3 (hd 3 mz0);simp only [e3] at HK ⊢;go_simp;exact HK.out _ _ bR rfl
     ·have e2:x 2=.slice (some ⟨g2,o2,none⟩) is.length c3:=hp.post 2 (hd 2 mz0);have e4:x 4=.int .i64 (j:Int):=hp.post 4 (hd 4 mz1);simp only [e2,e4] at HK ⊢;go_simp;exact HK.out _ _ bR rfl
     ·have e5:x 5=.pointer (some ⟨g2,o2+j * 3,none⟩):=hp.post 5 (hd 5 mz0);simp only [e5] at HK ⊢;go_simp;exact HK.out _ _ bR rfl
     ·have e6:x 6=.pointer (some ⟨g2,o2+j * 3+2,none⟩):=hp.post 6 (hd 6 mz0);have bw:=zaa hp.bel;have q5:=(HWR.out W bw).2.2;clear bw;simp only [e6] at HK ⊢;go_simp;exact HK.out _ _ bR rfl
     ·clear hK hK' hp hd;go_simp;exact HK.out _ _ bR rfl
     ·have e7:x 7=.slice (some ⟨gp,op,none⟩) ps.length sc:=hp.post 7 (hd 7 mz0);have e8:x 8=.int .i64 (q:Int):=hp.post 8 (hd 8 mz1);simp only [e7,e8] at HK ⊢;go_simp;exact HK.out _ _ bR rfl
     ·have e9:x 9=.pointer (some ⟨gp,op+q,none⟩):=hp.post 9 (hd 9 mz0);have bw:=zaa hp.bel;have q9:=(HWR.out W bw).2.1;clear bw;simp only [e9] at HK ⊢;go_simp;exact HK.out _ _ bR rfl
     ·have e0:x 0=.agg #[.slice a1 xs.length c1,.slice a2 ys.length c2,.slice (some ⟨g2,o2,none⟩) is.length c3,.slice a4 bs.length c4]:=hp.post 0 (hd 0 mz0);have e10:x 10=.int .i64 Pn:=hp.post 10 (hd 10 mz1);have dr:=(HWR.out W (zaa hp.bel)).1.b;simp only [e0,e10] at HK ⊢;clear e0 e10;go_simp;refine (CB.out W dr).mono ?_;rintro e w6 ⟨sv,rfl,R6,B6⟩;obtain ⟨ba,bc,rfl,hR6⟩:=R6;go_simp;exact HK.out _ _ B6 ⟨_,_,rfl,ba,bc,rfl,rfl,ba,bc,rfl,hR6⟩
     ·have e11:∃ a r,x 11=.tuple #[a,r]/\BlkR w bd btx bss F (iw 11).1 (iw 11).2 W a r:=hp.post 11 (hd 11 mz0);obtain ⟨a,r,e11,-⟩:=e11;have ea:=hide e11;simp only [e11] at HK ⊢;clear e11;go_simp;exact HK.out _ _ bR ⟨ea.out,a,r,rfl⟩
     ·have e12:x 11=x 12/\∃ a r,x 12=.tuple #[a,r]:=hp.post 12 (hd 12 mz0);obtain ⟨-,a,r,e12⟩:=e12;have ea:Hid (a=fstOf (x 12)):=by rw [e12];rfl
      simp only [e12] at HK ⊢;clear e12;go_simp;exact HK.out _ _ bR ea.out
     ·have e12:x 11=x 12/\∃ a r,x 12=.tuple #[a,r]:=hp.post 12 (hd 12 mz0);obtain ⟨-,a,r,e12⟩:=e12;have ea:Hid (r=sndOf (x 12)):=by rw [e12];rfl
      simp only [e12] at HK ⊢;clear e12;go_simp;exact HK.out _ _ bR ea.out
     ·clear hK hK' hp hd;go_simp;exact HK.out _ _ ((Below.refl _ W).alloc nR _) ⟨rfl,by simp,AtC.new W 74 _⟩
    ·intro x iw W hp;obtain ⟨a,r,e11,R11⟩:=hp.post 11 (by decide);obtain ⟨e12,-⟩:=hp.post 12 (by decide);have e13:x 13=fstOf (x 12):=hp.post 13 (by decide);have e14:x 14=sndOf (x 12):=hp.post 14 (by decide);obtain ⟨e15,z15,A15⟩:=hp.post 15 (by decide);have l15:=hp.lo 15 (by decide);have lc:=hp.lo 11 (by decide);have bel:=zaa hp.bel;have ap:=hp.apart 11 (by decide) 15 (by decide) (by decide);rw [← e12,e11] at e13;rw [← e12,e11] at e14
     replace e14:x 14=r:=e14
     rw [e11] at e12
     replace e12:=e12.symm
     replace e13:x 13=a:=e13
     have y0:W.cell? ⟨(iw 15).1,0,none⟩=some (.bool false):=A15.cell 0;have f0:=A15.frozen 0;have y1:W.cell? ⟨(iw 15).1,1,none⟩=some (.slice none 0 0):=A15.cell 1;have f1:=A15.frozen 1;have y2:W.cell? ⟨(iw 15).1,2,none⟩=some (.string ⟨#[]⟩):=A15.cell 2;have f2:=A15.frozen 2;obtain ⟨ba,bc,rfl,rfl,hR⟩:=R11;have hb15:wo.heap.size<=(iw 15).1:=l15.1;have HFI:Hid (AtC W (iw 15).1 74 #[.bool false,.slice none 0 0,.string ⟨#[]⟩]/\RSl w (.slice ba bss.length bc) bss/\Below wo.heap.size wo W/\wo.heap.size<=(iw 15).1):=⟨A15,hR,bel,hb15⟩
     clear hp A15 hR bel ap lc l15 z15 hb15;simp only [e12,e13,e15,e14] at *;generalize (iw 15).1=bw at *;go_wp2_with fail
     try rw [List.filterMap_nil]
     try go_wp2_with fail
     go_meet
     exact ⟨bw,ba,bc,rfl,rfl,((HFI.out.1.set 0 _).set 1 _).set 2 _,HFI.out.2.1,((HFI.out.2.2.1.setCell (p:=⟨bw,0,none⟩) HFI.out.2.2.2 _).setCell (p:=⟨bw,1,none⟩) HFI.out.2.2.2 _).setCell (p:=⟨bw,2,none⟩) HFI.out.2.2.2 _,HFI.out.2.2.2⟩
    ·intro qa hqa l hl x iw W hp;simp only [List.mem_cons,List.not_mem_nil,or_false] at hqa;subst hqa;simp only [List.mem_cons,List.not_mem_nil,or_false] at hl;obtain ⟨a,r,e11,R11⟩:=hp.post 11 (by decide);obtain ⟨e12,-⟩:=hp.post 12 (by decide);have e13:x 13=fstOf (x 12):=hp.post 13 (by decide);obtain ⟨e15,z15,A15⟩:=hp.post 15 (by decide);have l15:=hp.lo 15 (by decide);have lc:=hp.lo 11 (by decide);have bel:=zaa hp.bel;have ap:=hp.apart 11 (by decide) 15 (by decide) (by decide);rw [← e12,e11] at e13;rw [e11] at e12
     replace e12:=e12.symm
     replace e13:x 13=a:=e13
     have y0:W.cell? ⟨(iw 15).1,0,none⟩=some (.bool false):=A15.cell 0;have f0:=A15.frozen 0;have y1:W.cell? ⟨(iw 15).1,1,none⟩=some (.slice none 0 0):=A15.cell 1;have f1:=A15.frozen 1;have y2:W.cell? ⟨(iw 15).1,2,none⟩=some (.string ⟨#[]⟩):=A15.cell 2;have f2:=A15.frozen 2;obtain ⟨ba,bc,rfl,rfl,hR⟩:=R11;have hb15:wo.heap.size<=(iw 15).1:=l15.1;have HFI:Hid (AtC W (iw 15).1 74 #[.bool false,.slice none 0 0,.string ⟨#[]⟩]/\RSl w (.slice ba bss.length bc) bss/\Below wo.heap.size wo W/\wo.heap.size<=(iw 15).1):=⟨A15,hR,bel,hb15⟩
     clear hp A15 hR bel ap lc l15 z15 hb15;simp only [e12,e13,e15] at *;generalize (iw 15).1=bw at *;rcases hl with rfl | rfl
     ·go_wp2_with fail
      try rw [List.filterMap_nil]
      try go_wp2_with fail
      go_meet
      exact ⟨bw,ba,bc,rfl,rfl,((HFI.out.1.set 0 _).set 1 _).set 2 _,HFI.out.2.1,((HFI.out.2.2.1.setCell (p:=⟨bw,0,none⟩) HFI.out.2.2.2 _).setCell (p:=⟨bw,1,none⟩) HFI.out.2.2.2 _).setCell (p:=⟨bw,2,none⟩) HFI.out.2.2.2 _,HFI.out.2.2.2⟩
     ·go_wp2_with fail
      try rw [List.filterMap_nil]
      try go_wp2_with fail
      go_meet
      exact ⟨bw,ba,bc,rfl,rfl,((HFI.out.1.set 0 _).set 1 _).set 2 _,HFI.out.2.1,((HFI.out.2.2.1.setCell (p:=⟨bw,0,none⟩) HFI.out.2.2.2 _).setCell (p:=⟨bw,1,none⟩) HFI.out.2.2.2 _).setCell (p:=⟨bw,2,none⟩) HFI.out.2.2.2 _,HFI.out.2.2.2⟩
   case rest =>
    obtain ⟨bw,ba,bc,rfl,rfl,Aw,Rw,Bw,lw⟩:=hcut;have HN2:Hid (SlR w wc #[.slice a1 xs.length c1,.slice a2 ys.length c2,.slice (some ⟨g2,o2,none⟩) is.length c3,.slice a4 bs.length c4] bw lv l/\AtC wc bw 74 #[.bool bd,.slice ba bss.length bc,.string btx]/\l.length<=4 * q+0/\l=nmdP bs (ps.take q) ++ nmdS (bss.take 0)):=⟨(HR.out.1.below Bw).turn (fun k hk=>by have:=(HR.out.1.o.lt k hk).2;omega),Aw,HR.out.2.1,by rw [HR.out.2.2];simp [nmdS]⟩
    have HRS:=hide Rw;clear Aw Rw Bw CB HR HWR lw;go_wp2_with fail
    go_loopw [5,9] (fun x5 kk wr=>∃ (lv:Value) (l:List Sl) (t:Nat),lv=x5/\t<=bss.length/\kk=.int .i64 t/\Hid (SlR w wr #[.slice a1 xs.length c1,.slice a2 ys.length c2,.slice (some ⟨g2,o2,none⟩) is.length c3,.slice a4 bs.length c4] bw lv l/\AtC wr bw 74 #[.bool bd,.slice ba bss.length bc,.string btx]/\l.length<=4 * q+t/\(bd=false->t=0)/\l=nmdP bs (ps.take q) ++ nmdS (bss.take t))) (fun _ kk _=>bss.length - (intOf kk).toNat)
    case atStart=>exact ⟨lv,l,0,rfl,Nat.zero_le _,rfl,HN2.out.1,HN2.out.2.1,HN2.out.2.2.1,fun _=>rfl,HN2.out.2.2.2⟩
    case round =>
     clear HN2;obtain ⟨lv',l',t,hlv,ht,rfl,HS⟩:=hrel;subst hlv;have g0:wr.cell? ⟨bw,0,none⟩=some (.bool bd):=HS.out.2.1.cell 0;have g1:wr.cell? ⟨bw,1,none⟩=some (.slice ba bss.length bc):=HS.out.2.1.cell 1;have t0:(0:Int)<=(t:Int):=by omega
     have hq2:q < 2:=by omega
     by_cases htl:t < bss.length
     rotate_left
     ·have t1:¬ ((t:Int) < (bss.length:Int)):=by omega
      have HEN:Hid (l'=nmdP bs (ps.take (q+1))/\l'.length<=4 * (q+1)):=by
       have e:=HS.out.2.2.2.2;rw [List.take_of_length_le (show bss.length<=t by omega)] at e;refine ⟨?_,by have:=HS.out.2.2.1;omega⟩;rw [HTK.out,e];congr 1
       unfold nmd
       cases hbd:bd with
       | true=>simp
       | false =>
        have:=HS.out.2.2.2.1 hbd;have:bss=[]:=List.length_eq_zero_iff.1 (by omega);rw [this];simp [nmdS]
      go_wp2;go_roundw
      case rel=>exact ⟨lv',l',q+1,rfl,by omega,by go_num,HS.out.1.turn (fun k hk=>by have:=(HS.out.1.o.lt k hk).1;omega),HEN.out.2,HEN.out.1⟩
      case measure=>simp [intOf];omega
     have t1:(t:Int) < (bss.length:Int):=by omega
     cases bd with
     | false =>
      have HEN:Hid (l'=nmdP bs (ps.take (q+1))/\l'.length<=4 * (q+1)):=by
       have e:=HS.out.2.2.2.2;have e0:=HS.out.2.2.2.1 rfl;refine ⟨?_,by have:=HS.out.2.2.1;omega⟩;rw [HTK.out,e,e0];simp [nmd,nmdS]
      go_wp2;go_roundw
      case rel=>exact ⟨lv',l',q+1,rfl,by omega,by go_num,HS.out.1.turn (fun k hk=>by have:=(HS.out.1.o.lt k hk).1;omega),HEN.out.2,HEN.out.1⟩
      case measure=>simp [intOf];omega
     | true =>
     obtain ⟨sa',sc',e1,-,hcs⟩:=HRS.out;simp only [Value.slice.injEq,true_and] at e1;obtain ⟨rfl,rfl⟩:=e1;obtain ⟨gs,os,rfl,hgs,ks0,ks1⟩:=hcs t htl;have HTS:=hide (zfk htl);obtain ⟨⟨sn,si⟩,hsn⟩:∃ X,bss[t]=X:=⟨_,rfl⟩
     rw [hsn] at ks0 ks1 HTS;simp only at ks0 ks1
     replace ks0:=(HS.out.1.b.cell (p:=⟨gs,os+t * 2,none⟩) hgs).trans ks0
     replace ks1:=(HS.out.1.b.cell (p:=⟨gs,os+t * 2+1,none⟩) hgs).trans ks1
     clear hcs hsn;by_cases hse:sn=⟨#[]⟩
     ·subst hse;have HE2:Hid (l'=nmdP bs (ps.take q) ++ nmdS (bss.take (t+1))):=by
       have e:=HTS.out;rw [if_pos rfl,List.append_nil] at e;show l'=_;rw [e];exact HS.out.2.2.2.2
      go_wp2;go_roundw
      case rel=>exact ⟨lv',l',t+1,rfl,by omega,by go_num,HS.out.1,HS.out.2.1,by have:=HS.out.2.2.1;omega,(fun e=>by cases e),HE2.out⟩
      case measure=>simp [intOf];omega
     have hse2:(sn.toList == ([]:List UInt8))=false:=zc2 hse;have hse3:(sn.toList != ([]:List UInt8))=true:=by simp [bne,hse2]
     have HT:Hid (SOwns (wr.alloc (.cells #[.string sn,.int .i64 si] 100)) (w.heap.size+1) 100 lv' l'):=HS.out.1.o.alloc _;have HK2:Hid (AtC (wr.alloc (.cells #[.string sn,.int .i64 si] 100)) wr.heap.size 100 #[.string sn,.int .i64 si]):=AtC.new wr 100 _;have HSZ:Hid (w.heap.size+1<=(wr.alloc (.cells #[.string sn,.int .i64 si] 100)).heap.size):=by have:=HS.out.1.b.size;show _<=_;simp;omega
     have HTL:Hid (l'.length<=100000000000):=by have:=HS.out.2.2.1;show _<=_;omega
     have HAL:Hid (Below wr.heap.size wr (wr.alloc (.cells #[.string sn,.int .i64 si] 100))):=(Below.refl _ wr).alloc nR _;go_wp2_with (at_builtin;refine wpList_step fun K' hK'=>?_;refine zdh _ rfl (.tmp 73) (.tmp 79) rfl (w.heap.size+1) lv' _ rfl HT.out HSZ.out wr.heap.size sn si rfl HK2.out HTL.out ?_;intro v12 w12 T12 G12 V12;refine hK' _ _ ?_;have HR12:=hide (And.intro T12 (And.intro G12 V12));clear T12 G12 V12 hK')
     have HRL:Hid (SlR w w12 #[.slice a1 xs.length c1,.slice a2 ys.length c2,.slice (some ⟨g2,o2,none⟩) is.length c3,.slice a4 bs.length c4] bw v12 (l' ++ [(sn,si)])/\AtC w12 bw 74 #[.bool true,.slice (some ⟨gs,os,none⟩) bss.length bc,.string btx]/\(l' ++ [(sn,si)]).length<=4 * q+(t+1)/\(true=false->t+1=0)/\l' ++ [(sn,si)]=nmdP bs (ps.take q) ++ nmdS (bss.take (t+1))):=by
      obtain ⟨T12,G12,V12⟩:=HR12.out;have n1:=HS.out.1.below HAL.out;have hbw:bw < (wr.alloc (.cells #[.string sn,.int .i64 si] 100)).heap.size:=(HS.out.2.1.over HAL.out).lt;have e:=HTS.out;rw [if_neg hse] at e;refine ⟨n1.app T12 G12 V12 hbw,(HS.out.2.1.over HAL.out).grown G12 (fun e=>HS.out.1.n _ e rfl),by have:=HS.out.2.2.1;simp;omega,(fun e=>by cases e),?_⟩;rw [e,← List.append_assoc,← HS.out.2.2.2.2]
     go_roundw
     case rel=>exact ⟨v12,l' ++ [(sn,si)],t+1,rfl,by omega,by go_num,HRL.out⟩
     case measure=>simp [intOf];omega
def Rch (E:Int->Int->Prop) (j:Int):Prop:=∀ S:Int->Prop,S 1->(∀ i k,S i->E i k->S k)->S j
theorem Rch.root (E:Int->Int->Prop):Rch E 1:=fun _ h _=>h
theorem Rch.step {E:Int->Int->Prop}{i k:Int}(h:Rch E i)(e:E i k):Rch E k:=fun S h1 h2=>h2 i k (h S h1 h2) e
def all8:List Int:=[1,2,3,4,5,6,7,8]
theorem zdw {j:Int}:j∈all8↔1<=j/\j<=8:=by
 simp only [all8,List.mem_cons,List.not_mem_nil,or_false];omega
def InE (E:Int->Int->Prop):Prop:=∀ i k,E i k->1<=k/\k<=8
theorem Rch.range {E:Int->Int->Prop}(hE:InE E){j:Int}(h:Rch E j):1<=j/\j<=8:=h (fun j=>1<=j/\j<=8) (by omega) (fun i k _ e=>hE i k e)
theorem znh:all8.Pairwise (· < ·):=by decide
theorem zl0 {l m:List Int}(hl:l.Pairwise (·<=·))(hm:m.Pairwise (·<=·))(h:l.Perm m):l=m:=h.eq_of_pairwise (fun _ _ _ _ h1 h2=>Int.le_antisymm h1 h2) hl hm
theorem zkz {l:List Int}(hn:l.Nodup)(h:∀ j∈l,1<=j/\j<=8):l.length<=8:=by
 have hp:l.Perm (all8.filter fun j=>decide (j∈l)):=(List.perm_ext_iff_of_nodup hn ((znh.imp fun h=>Int.ne_of_lt h).sublist List.filter_sublist)).2 fun j=>by
  rw [List.mem_filter,decide_eq_true_eq,zdw];exact ⟨fun hj=>⟨h j hj,hj⟩,fun hj=>hj.2⟩
 rw [hp.length_eq];exact List.length_filter_le _ _
structure Sound (E:Int->Int->Prop) (h:List Bool):Prop where
 n:h.length=8
 r:∀ q:Nat,h.getD q false=true->Rch E ((q:Int)+1)
def Full (E:Int->Int->Prop) (h:List Bool):Prop:=∀ q:Nat,Rch E ((q:Int)+1)->h.getD q false=true
structure Pass (E:Int->Int->Prop) (h0 h:List Bool) (i:Nat):Prop where
 s:Sound E h
 up:∀ q:Nat,h0.getD q false=true->h.getD q false=true
 e:∀ a:Nat,a < i->h0.getD a false=true->∀ k,E ((a:Int)+1) k->h.getD (k - 1).toNat false=true
structure PassIn (E:Int->Int->Prop) (h0 h:List Bool) (i:Nat) (ks:List Int) (t:Nat):Prop where
 p:Pass E h0 h i
 m:h.getD i false=true
 k:∀ k∈ks.take t,E ((i:Int)+1) k->h.getD (k - 1).toNat false=true
theorem zdb {l:List Bool}{q j:Nat}(hj:j < l.length):(l.set j true).getD q false=if q=j then true else l.getD q false:=by
 rw [List.getD_eq_getElem?_getD,List.getD_eq_getElem?_getD,List.getElem?_set];by_cases e:j=q
 ·subst e;simp [hj]
 ·rw [if_neg e,if_neg (fun h=>e h.symm)]
theorem zk0 {l:List Bool}{q j:Nat}(hj:j < l.length)(h:l.getD q false=true):(l.set j true).getD q false=true:=by
 rw [zdb hj];split<;>simp_all
theorem PassIn.set {E:Int->Int->Prop}{h0 h:List Bool}{i t:Nat}{ks:List Int}(H:PassIn E h0 h i ks t)(ht:t < ks.length)(he:E ((i:Int)+1) ks[t])(hr:1<=ks[t]/\ks[t]<=8):PassIn E h0 (h.set (ks[t] - 1).toNat true) i ks (t+1):=by
 have hj:(ks[t] - 1).toNat < h.length:=by have:=H.p.s.n;omega
 refine ⟨⟨⟨by rw [List.length_set];exact H.p.s.n,fun q hq=>?_⟩,fun q hq=>zk0 hj (H.p.up q hq),fun a ha h0a k hk=>zk0 hj (H.p.e a ha h0a k hk)⟩,zk0 hj H.m,fun k hk hek=>?_⟩
 ·rw [zdb hj] at hq
  split at hq
  ·rename_i e;have:=(H.p.s.r i H.m).step he;rw [e]
   rwa [show (((ks[t] - 1).toNat:Nat):Int)+1=ks[t] by omega]
  ·exact H.p.s.r q hq
 ·rw [List.take_succ_eq_append_getElem ht,List.mem_append] at hk;rcases hk with hk | hk
  ·exact zk0 hj (H.k k hk hek)
  ·rw [List.mem_singleton] at hk;subst hk;rw [zdb hj,if_pos rfl]
theorem PassIn.skip {E:Int->Int->Prop}{h0 h:List Bool}{i t:Nat}{ks:List Int}(H:PassIn E h0 h i ks t)(ht:t < ks.length)(he:¬ E ((i:Int)+1) ks[t]):PassIn E h0 h i ks (t+1):=by
 refine ⟨H.p,H.m,fun k hk hek=>?_⟩;rw [List.take_succ_eq_append_getElem ht,List.mem_append] at hk;rcases hk with hk | hk
 ·exact H.k k hk hek
 ·rw [List.mem_singleton] at hk;subst hk;exact absurd hek he
theorem PassIn.done {E:Int->Int->Prop}{h0 h:List Bool}{i t:Nat}{ks:List Int}(H:PassIn E h0 h i ks t)(ht:ks.length<=t)(hk:∀ k,E ((i:Int)+1) k->k∈ks):Pass E h0 h (i+1):=by
 refine ⟨H.p.s,H.p.up,fun a ha h0a k hek=>?_⟩;by_cases e:a=i
 ·subst e;exact H.k k (by rw [List.take_of_length_le ht];exact hk k hek) hek
 ·exact H.p.e a (by omega) h0a k hek
theorem Pass.skip {E:Int->Int->Prop}{h0 h:List Bool}{i:Nat}(H:Pass E h0 h i)(hf:h.getD i false=false):Pass E h0 h (i+1):=by
 refine ⟨H.s,H.up,fun a ha h0a k hek=>?_⟩;by_cases e:a=i
 ·subst e;rw [H.up a h0a] at hf;cases hf
 ·exact H.e a (by omega) h0a k hek
theorem Pass.begin {E:Int->Int->Prop}{h:List Bool}(H:Sound E h):Pass E h h 0:=⟨H,fun _ h=>h,fun a ha=>absurd ha (by omega)⟩
theorem zhh:∀ {a b:List Bool},a.length=b.length->(∀ q,a.getD q false=true->b.getD q false=true)->a.count true<=b.count true/\(a≠b->a.count true < b.count true)
 | [],[],_,_=>⟨Nat.le_refl _,fun h=>absurd rfl h⟩
 | x :: r,y :: s,hl,h=>by
  have h1:=zhh (a:=r) (b:=s) (by simpa using hl) (fun q hq=>by simpa using h (q+1) (by simpa using hq));have h0:x=true->y=true:=fun e=>by simpa using h 0 (by simpa using e)
  cases x<;>cases y<;>simp at h0 ⊢<;>(try omega)<;>exact h1
structure Rnd (E:Int->Int->Prop) (h:List Bool) (r:Nat):Prop where
 s:Sound E h
 o:h.getD 0 false=true
 f:Full E h\/r+1<=h.count true
theorem Rnd.begin (E:Int->Int->Prop):Rnd E [true,false,false,false,false,false,false,false] 0:=by
 refine ⟨⟨rfl,fun q hq=>?_⟩,rfl,.inr (by decide)⟩
 match q,hq with
 | 0,_=>exact Rch.root E
 | 1,h=>exact absurd h (by decide)
 | 2,h=>exact absurd h (by decide)
 | 3,h=>exact absurd h (by decide)
 | 4,h=>exact absurd h (by decide)
 | 5,h=>exact absurd h (by decide)
 | 6,h=>exact absurd h (by decide)
 | 7,h=>exact absurd h (by decide)
 | (_+8),h=>exact absurd h (by simp)
theorem Rnd.next {E:Int->Int->Prop}(hE:InE E){h0 h:List Bool}{r:Nat}(H:Rnd E h0 r)(P:Pass E h0 h 8):Rnd E h (r+1):=by
 refine ⟨P.s,P.up 0 H.o,?_⟩;rcases H.f with f | f
 ·exact .inl fun q hq=>P.up q (f q hq)
 ·by_cases e:h0=h
  ·subst e;refine .inl fun q hq=>?_;have:=hq (fun j=>1<=j/\j<=8/\h0.getD (j - 1).toNat false=true) ⟨by omega,by omega,H.o⟩ (fun i k hi hk=>?_)
   ·have h2:=this.2.2
    rwa [show ((q:Int)+1 - 1).toNat=q by omega] at h2
   ·have hk8:=hE i k hk;refine ⟨hk8.1,hk8.2,P.e (i - 1).toNat (by omega) hi.2.2 k ?_⟩
    rwa [show (((i - 1).toNat:Nat):Int)+1=i by omega]
  ·have:=(zhh (by rw [P.s.n,H.s.n]) P.up).2 e;exact .inr (by omega)
theorem Rnd.full {E:Int->Int->Prop}{h:List Bool}(H:Rnd E h 8):Full E h:=by
 rcases H.f with f | f
 ·exact f
 ·have:=List.count_le_length (a:=true) (l:=h);have:=H.s.n;omega
def outL (h:List Bool) (q:Nat):List Int:=((List.range q).filter fun i=>h.getD i false).map fun i:Nat=>(i:Int)+1
theorem zni (h:List Bool)(q:Nat):outL h (q+1)=outL h q ++ if h.getD q false=true then [(q:Int)+1] else []:=by
 unfold outL;rw [List.range_succ,List.filter_append,List.map_append];congr 1
 by_cases e:h.getD q false=true
 ·rw [if_pos e,List.filter_cons_of_pos (p:=fun i=>h.getD i false) e];rfl
 ·rw [if_neg e,List.filter_cons_of_neg (p:=fun i=>h.getD i false) e];rfl
theorem outL_len (h:List Bool)(q:Nat):(outL h q).length<=q:=by
 unfold outL;rw [List.length_map];exact Nat.le_trans (List.length_filter_le _ _) (by simp)
def pK (e:Int->Int->Bool):Nat->Int->Bool
 | 0,j=>j == 1
 | k+1,j=>pK e k j || all8.any fun i=>pK e k i && e i j
def rchL (e:Int->Int->Bool):List Int:=all8.filter (pK e 8)
theorem pK_up {e:Int->Int->Bool}{k:Nat}{j:Int}(h:pK e k j=true):pK e (k+1) j=true:=by
 rw [pK,h,Bool.true_or]
theorem pK_one (e:Int->Int->Bool):∀ k,pK e k 1=true
 | 0=>rfl
 | k+1=>pK_up (pK_one e k)
theorem ze2 {E:Int->Int->Prop}{e:Int->Int->Bool}(he:∀ i k,e i k=true↔E i k):∀ k j,pK e k j=true->Rch E j
 | 0,j,h=>by
  have:j=1:=by simpa [pK] using h
  rw [this];exact Rch.root E
 | k+1,j,h=>by
  rw [pK,Bool.or_eq_true] at h;rcases h with h | h
  ·exact ze2 he k j h
  ·obtain ⟨i,-,hi⟩:=List.any_eq_true.1 h;rw [Bool.and_eq_true] at hi;exact (ze2 he k i hi.1).step ((he i j).1 hi.2)
theorem znj {E:Int->Int->Prop}{e:Int->Int->Bool}(he:∀ i k,e i k=true↔E i k)(hE:InE E):∀ k,(∀ j,Rch E j->pK e k j=true)\/k+1<=(all8.map (pK e k)).count true
 | 0=>.inr (by show 1<=(all8.map fun j=>j == 1).count true;decide)
 | k+1=>by
  rcases znj he hE k with f | f
  ·exact .inl fun j h=>pK_up (f j h)
  ·by_cases q:all8.map (pK e k)=all8.map (pK e (k+1))
   ·refine .inl fun j hj=>pK_up ?_;have hq:=List.map_inj_left.1 q;exact (hj (fun j=>(1<=j/\j<=8)/\pK e k j=true) ⟨by omega,pK_one e k⟩ (fun i t hi hit=>by
     have ht:=hE i t hit;refine ⟨ht,?_⟩;rw [hq t (zdw.2 ht),pK,Bool.or_eq_true];refine .inr (List.any_eq_true.2 ⟨i,zdw.2 hi.1,?_⟩);rw [hi.2,(he i t).2 hit];rfl)).2
   ·have:=(zhh (a:=all8.map (pK e k)) (b:=all8.map (pK e (k+1))) (by simp) (fun n hn=>by
     rw [List.getD_eq_getElem?_getD,List.getElem?_map] at hn ⊢
     cases h:all8[n]? with
     | none=>rw [h] at hn;simp at hn
     | some a =>
      rw [h] at hn;simp only [Option.map_some,Option.getD_some] at hn ⊢;exact pK_up hn)).2 q
    exact .inr (by omega)
theorem zdx {E:Int->Int->Prop}{e:Int->Int->Bool}(he:∀ i k,e i k=true↔E i k)(hE:InE E){j:Int}:j∈rchL e↔Rch E j:=by
 unfold rchL;rw [List.mem_filter,zdw];refine ⟨fun h=>ze2 he 8 j h.2,fun h=>⟨h.range hE,?_⟩⟩;rcases znj he hE 8 with f | f
 ·exact f j h
 ·have:=List.count_le_length (a:=true) (l:=all8.map (pK e 8));rw [List.length_map] at this;have h8:all8.length=8:=rfl;omega
theorem zhi (e:Int->Int->Bool):List.Sublist (rchL e) all8:=List.filter_sublist
theorem rchL_len (e:Int->Int->Bool):(rchL e).length<=8:=(zhi e).length_le
theorem znk (e:Int->Int->Bool):(rchL e).Pairwise (· < ·):=znh.sublist (zhi e)
theorem znl {E:Int->Int->Prop}{e:Int->Int->Bool}(he:∀ i k,e i k=true↔E i k)(hE:InE E){l:List Int}(hn:l.Nodup)(hr:∀ j∈l,Rch E j)(h1:(1:Int)∈l)(hc:∀ j∈l,∀ k,E j k->k∈l):l.mergeSort (fun x y=>decide (x<=y))=rchL e:=by
 have hp:l.Perm (rchL e):=(List.perm_ext_iff_of_nodup hn ((znk e).imp fun h=>Int.ne_of_lt h)).2 fun j=>by
  rw [zdx he hE];exact ⟨hr j,fun h=>h (fun j=>j∈l) h1 (fun i k hi e=>hc i hi k e)⟩
 refine zl0 ?_ ((znk e).imp fun h=>Int.le_of_lt h) ((List.mergeSort_perm l _).trans hp);have:=List.pairwise_mergeSort (le:=fun x y:Int=>decide (x<=y)) (fun a b c h1 h2=>by simp at *;omega) (fun a b=>by simp;omega) l;exact this.imp fun h=>by simpa using h
theorem znm {E:Int->Int->Prop}{e:Int->Int->Bool}(he:∀ i k,e i k=true↔E i k)(hE:InE E){h:List Bool}(hs:Sound E h)(hf:Full E h):outL h 8=rchL e:=by
 have q:all8=(List.range 8).map fun i:Nat=>(i:Int)+1:=by decide
 unfold outL rchL;rw [q,List.filter_map];congr 1
 apply List.filter_congr;intro n hn;have hn8:=List.mem_range.1 hn;simp only [Function.comp]
 cases h1:h.getD n false with
 | true =>
  have:=(zdx he hE).2 (hs.r n h1);exact (List.mem_filter.1 this).2.symm
 | false =>
  cases h2:pK e 8 ((n:Int)+1) with
  | false=>rfl
  | true=>rw [hf n (ze2 he 8 _ h2)] at h1;cases h1
def edge (is:List Ino) (bs:List Blk) (i k:Int):Prop:=∃ s∈named is bs i,s.2=k/\¬ zab is k=0
def edgeB (is:List Ino) (bs:List Blk) (i k:Int):Bool:=(named is bs i).any (fun s=>decide (s.2=k)) && decide (¬ zab is k=0)
theorem zdy (is:List Ino)(bs:List Blk)(i k:Int):edgeB is bs i k=true↔edge is bs i k:=by
 unfold edgeB edge;rw [Bool.and_eq_true,List.any_eq_true,decide_eq_true_eq];exact ⟨fun ⟨⟨s,h1,h2⟩,h3⟩=>⟨s,h1,of_decide_eq_true h2,h3⟩,fun ⟨s,h1,h2,h3⟩=>⟨⟨s,h1,decide_eq_true h2⟩,h3⟩⟩
theorem zl1 {is:List Ino}{bs:List Blk}(h:RD is bs){k:Int}(hk:¬ zab is k=0):1<=k/\k<=8:=by
 cases hb:inB k 1 is.length with
 | false=>exact absurd (zaz hb) hk
 | true =>
  have:=zao hb;have:=h.hi;omega
theorem zef {is:List Ino}{bs:List Blk}(h:RD is bs):InE (edge is bs):=fun _ _ ⟨_,_,_,hk⟩=>zl1 h hk
structure Dfs (E:Int->Int->Prop) (l l':List Int) (i:Int):Prop where
 pre:∃ m,l'=l ++ m
 nd:l'.Nodup
 r:∀ j∈l',Rch E j
 me:i∈l'
 cl:∀ j∈l',j ∉ l->∀ k,E j k->k∈l'
theorem Dfs.here {E:Int->Int->Prop}{l:List Int}{i:Int}(hn:l.Nodup)(hr:∀ j∈l,Rch E j)(hi:i∈l):Dfs E l l i:=⟨⟨[],by simp⟩,hn,hr,hi,fun _ h h'=>absurd h h'⟩
structure DfsL (E:Int->Int->Prop) (l c:List Int) (i:Int) (ks:List Int) (q:Nat):Prop where
 pre:∃ m,c=l ++ [i] ++ m
 nd:c.Nodup
 r:∀ j∈c,Rch E j
 cl:∀ j∈c,j ∉ l ++ [i]->∀ k,E j k->k∈c
 dn:∀ k∈ks.take q,E i k->k∈c
theorem DfsL.begin {E:Int->Int->Prop}{l:List Int}{i:Int}(ks:List Int)(hn:l.Nodup)(hr:∀ j∈l,Rch E j)(hi:Rch E i)(hni:i ∉ l):DfsL E l (l ++ [i]) i ks 0:=by
 refine ⟨⟨[],by simp⟩,?_,fun j hj=>?_,fun j h h'=>absurd h h',fun k hk=>by simp at hk⟩
 ·rw [List.nodup_append];refine ⟨hn,by simp,fun a ha b hb=>?_⟩;rw [List.mem_singleton] at hb;intro e;subst e;subst hb;exact hni ha
 ·rcases List.mem_append.1 hj with h | h
  ·exact hr j h
  ·rw [List.mem_singleton] at h;rw [h];exact hi
theorem DfsL.skip {E:Int->Int->Prop}{l c:List Int}{i:Int}{ks:List Int}{q:Nat}(h:DfsL E l c i ks q)(hq:q < ks.length)(he:¬ E i ks[q]):DfsL E l c i ks (q+1) :=
 ⟨h.pre,h.nd,h.r,h.cl,fun k hk hek=>by
  rw [List.take_succ_eq_append_getElem hq,List.mem_append] at hk;rcases hk with hk | hk
  ·exact h.dn k hk hek
  ·rw [List.mem_singleton] at hk;subst hk;exact absurd hek he⟩
theorem DfsL.call {E:Int->Int->Prop}{l c c':List Int}{i:Int}{ks:List Int}{q:Nat}(h:DfsL E l c i ks q)(hq:q < ks.length)(d:Dfs E c c' ks[q]):DfsL E l c' i ks (q+1):=by
 obtain ⟨m,hm⟩:=h.pre;obtain ⟨m',hm'⟩:=d.pre;refine ⟨⟨m ++ m',by rw [hm',hm];simp⟩,d.nd,d.r,fun j hj hn k hk=>?_,fun k hk hek=>?_⟩
 ·by_cases e:j∈c
  ·rw [hm'];exact List.mem_append_left _ (h.cl j e hn k hk)
  ·exact d.cl j hj e k hk
 ·rw [List.take_succ_eq_append_getElem hq,List.mem_append] at hk;rcases hk with hk | hk
  ·rw [hm'];exact List.mem_append_left _ (h.dn k hk hek)
  ·rw [List.mem_singleton] at hk;subst hk;exact d.me
theorem DfsL.done {E:Int->Int->Prop}{l c:List Int}{i:Int}{ks:List Int}{q:Nat}(h:DfsL E l c i ks q)(hq:ks.length<=q)(hk:∀ k,E i k->k∈ks):Dfs E l c i:=by
 obtain ⟨m,hm⟩:=h.pre;refine ⟨⟨[i] ++ m,by rw [hm];simp⟩,h.nd,h.r,by rw [hm];simp,fun j hj hn k hek=>?_⟩;by_cases e:j=i
 ·subst e;exact h.dn k (by rw [List.take_of_length_le hq];exact hk k hek) hek
 ·exact h.cl j hj (by simp [hn,e]) k hek
theorem DfsL.len {E:Int->Int->Prop}(hE:InE E){l c:List Int}{i:Int}{ks:List Int}{q:Nat}(h:DfsL E l c i ks q):l.length+1<=c.length/\c.length<=8:=by
 obtain ⟨m,hm⟩:=h.pre;refine ⟨by rw [hm];simp,zkz h.nd fun j hj=>(h.r j hj).range hE⟩
structure Lv (w w':World) (lk:Nat) (lv lv':Value):Prop where
 c:Chg (fun k=>k=lk\/lv.ownBlock=some k) w w'
 o:∀ k,lv'.ownBlock=some k->lv.ownBlock=some k\/w.heap.size<=k
theorem Lv.refl (w:World)(lk:Nat)(lv:Value):Lv w w lk lv lv:=⟨Chg.refl _ _,fun _ h=>.inl h⟩
theorem Lv.trans {a b c:World}{lk:Nat}{x y z:Value}(h:Lv a b lk x y)(h':Lv b c lk y z):Lv a c lk x z:=by
 refine ⟨⟨h'.c.os.trans h.c.os,h'.c.tape.trans h.c.tape,h'.c.output.trans h.c.output,Nat.le_trans h.c.size h'.c.size,fun k hk hn=>?_⟩,fun k hk=>?_⟩
 ·refine (h'.c.block k (Nat.lt_of_lt_of_le hk h.c.size) fun e=>?_).trans (h.c.block k hk hn);rcases e with e | e
  ·exact hn (.inl e)
  ·rcases h.o k e with e | e
   ·exact hn (.inr e)
   ·omega
 ·rcases h'.o k hk with e | e
  ·exact h.o k e
  ·exact .inr (Nat.le_trans h.c.size e)
theorem Lv.below {a b c:World}{lk:Nat}{x y:Value}(h:Lv a b lk x y)(hb:Below b.heap.size b c):Lv a c lk x y:=h.trans ⟨Chg.of_below hb,fun _ e=>.inl e⟩
structure Cx (w0:World) (B dk lk gq:Nat) (D F:Array Value) (w:World) (lv:Value) (ol:List Int):Prop where
 b:Below w0.heap.size w0 w
 d:AtC w dk 35 D
 f:AtC w gq 158 F
 l:AtC w lk 54 #[lv]
 o:ROwns w B 3 lv (ic ol)
structure Pl (w0:World) (B dk lk gq:Nat):Prop where
 d:dk < B
 l:lk < B
 f:gq < B
 dl:dk≠lk
 fl:gq≠lk
 l0:w0.heap.size<=lk
theorem Cx.below {w0 w w':World}{B dk lk gq:Nat}{D F:Array Value}{lv:Value}{ol:List Int}(h:Cx w0 B dk lk gq D F w lv ol)(hb:Below w.heap.size w w'):Cx w0 B dk lk gq D F w' lv ol :=
 ⟨h.b.trans (hb.mono h.b.size),h.d.over hb,h.f.over hb,h.l.over hb,h.o.below hb nR⟩
theorem Cx.lv {w0 w w':World}{B dk lk gq:Nat}{D F:Array Value}{lv lv':Value}{ol ol':List Int}(h:Cx w0 B dk lk gq D F w lv ol)(P:Pl w0 B dk lk gq)(hv:Lv w w' lk lv lv')(hl:AtC w' lk 54 #[lv'])(ho:ROwns w' B 3 lv' (ic ol')):Cx w0 B dk lk gq D F w' lv' ol':=by
 have hB:∀ k,lv.ownBlock=some k->B<=k:=fun k hk=>(h.o.lt k hk).1;have hd:=P.d;have hf:=P.f;have hl1:=P.l;have hl0:=P.l0;refine ⟨h.b.trans (hv.c.below h.b.size (fun k hk=>?_)),(hv.c.block dk h.d.lt fun e=>?_).trans h.d,(hv.c.block gq h.f.lt fun e=>?_).trans h.f,hl,ho⟩
 ·rcases hk with e | e
  ·omega
  ·have:=hB k e;omega
 ·rcases e with e | e
  ·exact P.dl e
  ·have:=hB _ e;omega
 ·rcases e with e | e
  ·exact P.fl e
  ·have:=hB _ e;omega
theorem Cx.app {w0 w W w9:World}{B dk lk gq:Nat}{D F:Array Value}{lv v9:Value}{ol new:List Int}(h:Cx w0 B dk lk gq D F w lv ol)(P:Pl w0 B dk lk gq)(hb:Below w.heap.size w W)(h9:ROwns w9 B 3 v9 (ic new))(G9:W.grownBy w9 lv.ownBlock)(V9:∀ k,v9.ownBlock=some k->lv.ownBlock=some k\/W.heap.size<=k) :
  AtC w9 lk 54 #[lv]/\Lv w (w9.setCell ⟨lk,0,none⟩ v9) lk lv v9/\Cx w0 B dk lk gq D F (w9.setCell ⟨lk,0,none⟩ v9) v9 new/\AtC w9 dk 35 D:=by
 have hl1:=P.l;have hW:=h.below hb;have A9:AtC w9 lk 54 #[lv]:=hW.l.grown G9 (fun e=>by have:=(hW.o.lt lk e).1;omega);have L9:Lv W (w9.setCell ⟨lk,0,none⟩ v9) lk lv v9:=⟨(Chg.of_grown G9 (fun k hk=>.inr hk)).setCell (.inl rfl) _,V9⟩
 have O9:ROwns (w9.setCell ⟨lk,0,none⟩ v9) B 3 v9 (ic new):=h9.of_heap fun k hk=>heap_setCell_other w9 ⟨lk,0,none⟩ k _ (by have:=(h9.lt k hk).1;show k≠lk;omega);have hd:=P.d;exact ⟨A9,((Lv.refl w lk lv).below hb).trans L9,hW.lv P L9 (A9.set 0 v9) O9,hW.d.grown G9 (fun e=>by have:=(hW.o.lt dk e).1;omega)⟩
theorem ze3 (v:Value)(xs:List Int)(x:Int)(w:World)(h:RInts w v xs)(hl:xs.length<=1000000) :
  Calls Tryz.prog 111 #[v,.int .i64 x] w fun e w'=>e=.returned (.bool (xs.contains x))/\w'=w:=by
 obtain ⟨a,cap,rfl,hc⟩:=h
 cases xs with
 | nil=>exact Tryz.slices_Contains_int_empty a cap x w
 | cons y r =>
  obtain ⟨g,off,rfl,-,-⟩:=hc 0 (by simp);have:=Tryz.slices_Contains_int g off (y :: r).length cap (y :: r) x w nR (by omega) (fun j hj=>by
   obtain ⟨g',off',e,-,hcell⟩:=hc j hj;simp only [Option.some.injEq,Addr.mk.injEq,and_true] at e;obtain ⟨rfl,rfl⟩:=e;rw [hcell,List.getD_eq_getElem?_getD,List.getElem?_eq_getElem hj];rfl)
  rw [List.take_length] at this;exact this
theorem znn (a1 a2 a3 a4:Option Addr)(c1 c2 c3 c4:Nat)(xs ys:List Bool)(is:List Ino)(bs:List Blk)(hR:RD is bs)(w0:World)(h0:DR w0 (.slice a1 xs.length c1) (.slice a2 ys.length c2) (.slice a3 is.length c3) (.slice a4 bs.length c4) xs ys is bs)(B dk lk gq:Nat)(hP:Pl w0 B dk lk gq):∀ (n:Nat) (i:Int) (l:List Int) (lv:Value) (w:World),8<=l.length+n->l.Nodup->(∀ j∈l,Rch (edge is bs) j)->Rch (edge is bs) i->Cx w0 B dk lk gq #[.slice a1 xs.length c1,.slice a2 ys.length c2,.slice a3 is.length c3,.slice a4 bs.length c4] #[.func (.func 146) #[] #[.pointer (some ⟨lk,0,none⟩),.pointer (some ⟨dk,0,none⟩),.pointer (some ⟨gq,0,none⟩)]] w lv l->B<=w.heap.size ->
  Calls Tryz.prog 146 #[.int .i64 i,.pointer (some ⟨lk,0,none⟩),.pointer (some ⟨dk,0,none⟩),.pointer (some ⟨gq,0,none⟩)] w fun e w'=>e=.returned (.tuple #[])/\∃ l' lv',Dfs (edge is bs) l l' i/\Lv w w' lk lv lv'/\Cx w0 B dk lk gq #[.slice a1 xs.length c1,.slice a2 ys.length c2,.slice a3 is.length c3,.slice a4 bs.length c4] #[.func (.func 146) #[] #[.pointer (some ⟨lk,0,none⟩),.pointer (some ⟨dk,0,none⟩),.pointer (some ⟨gq,0,none⟩)]] w' lv' l':=by
 have HE:=hide (zef hR);intro n
 induction n with
 | zero =>
  intro i l lv w hn hnd hr hi hc hB;have hil:i∈l:=by
   by_cases e:i∈l
   ·exact e
   ·exact absurd ((DfsL.begin [] hnd hr hi e).len HE.out).2 (by rw [List.length_append];simp;omega)
  have hlen:=zkz hnd fun j hj=>(hr j hj).range HE.out;have CH:=hide (ze3 lv l i w hc.o.rints (by omega));have hct:l.contains i=true:=by simpa using hil
  rw [hct] at CH;have p0:w.cell? ⟨lk,0,none⟩=some lv:=hc.l.cell 0;have HC:=hide hc;have HF:=hide (Dfs.here hnd hr hil);clear hct hil hr hi hnd hn hR h0 hP;obtain ⟨la,lc,rfl,-⟩:=hc.o.form;clear hc;go_enter Tryz.func146,Tryz.ntmps146
  go_wp2_with fail
  refine CH.out.mono ?_;rintro e w1 ⟨rfl,rfl⟩;go_wp2;refine bodyPost_ret (v:=.tuple #[]) (by simp [results,go_sem]) rfl ⟨rfl,l,_,HF.out,Lv.refl _ _ _,HC.out⟩
 | succ n ih =>
  intro i l lv w hn hnd hr hi hc hB;have hlen:=zkz hnd fun j hj=>(hr j hj).range HE.out;have CH:=hide (ze3 lv l i w hc.o.rints (by omega));have p0:w.cell? ⟨lk,0,none⟩=some lv:=hc.l.cell 0;have HC:=hide hc;by_cases hil:i∈l
  ·have hct:l.contains i=true:=by simpa using hil
   rw [hct] at CH;have HF:=hide (Dfs.here hnd hr hil);clear hct hil hr hi hnd hn hR h0 hP ih;obtain ⟨la,lc,rfl,-⟩:=hc.o.form;clear hc;go_enter Tryz.func146,Tryz.ntmps146
   go_wp2_with fail
   refine CH.out.mono ?_;rintro e w1 ⟨rfl,rfl⟩;go_wp2;refine bodyPost_ret (v:=.tuple #[]) (by simp [results,go_sem]) rfl ⟨rfl,l,_,HF.out,Lv.refl _ _ _,HC.out⟩
  have hct:l.contains i=false:=by simpa using hil
  rw [hct] at CH;have HF0:=hide (DfsL.begin ((named is bs i).map (·.2)) hnd hr hi hil);have HND:Hid (∀ (W:World),DR W (.slice a1 xs.length c1) (.slice a2 ys.length c2) (.slice a3 is.length c3) (.slice a4 bs.length c4) xs ys is bs->Calls Tryz.prog 100 #[.agg #[.slice a1 xs.length c1,.slice a2 ys.length c2,.slice a3 is.length c3,.slice a4 bs.length c4],.int .i64 i] W fun e w'=>∃ v,e=.returned v/\SOwns w' W.heap.size 100 v (named is bs i)/\Below W.heap.size W w'):=fun W hd=>zee i (.slice a1 xs.length c1) (.slice a2 ys.length c2) (.slice a3 is.length c3) (.slice a4 bs.length c4) xs ys is bs W hd hR;have HNK:Hid (∀ (io:Int) (W:World),DR W (.slice a1 xs.length c1) (.slice a2 ys.length c2) (.slice a3 is.length c3) (.slice a4 bs.length c4) xs ys is bs->Calls Tryz.prog 52 #[.agg #[.slice a1 xs.length c1,.slice a2 ys.length c2,.slice a3 is.length c3,.slice a4 bs.length c4],.int .i64 io] W fun e w'=>e=.returned (.bool (decide (¬ zab is io=0)))/\Below W.heap.size W w'):=fun io W hd=>zgh io (.slice a1 xs.length c1) (.slice a2 ys.length c2) (.slice a3 is.length c3) (.slice a4 bs.length c4) xs ys is bs W hd hR;have HEN:Hid (∀ k,edge is bs i k->k∈(named is bs i).map (·.2)):=fun k ⟨s,hs,e,_⟩=>by rw [← e];exact List.mem_map_of_mem hs
  have HRI:=hide hi;have HN8:Hid ((named is bs i).length<=8):=hR.named8 i;have H0:=hide h0;have HP:=hide hP;have HLL:Hid (l.length<=8):=hlen;have HBW:Hid (B<=w.heap.size):=hB;have HN:Hid (8<=l.length+(n+1)):=hn;have IH:=hide ih;obtain ⟨la,lc,rfl,-⟩:=hc.o.form;have HOC:=hide (And.intro hc.o (And.intro hB (And.intro hP.l hc.l.lt)));clear hc hct hil hr hi hnd hn hR h0 hP ih hlen hB;obtain ⟨m,hm⟩:∃ m,(ic l).length=m:=⟨_,rfl⟩
  rw [hm] at CH p0 HC HOC ⊢;have HM:=hide hm;clear hm;go_enter Tryz.func146,Tryz.ntmps146
  go_wp2_with fail
  refine CH.out.mono ?_;rintro e w1 ⟨rfl,rfl⟩;clear CH;have HAL:Hid (Below w1.heap.size w1 (w1.alloc (.cells #[.int .i64 i] 3))/\ROwns (w1.alloc (.cells #[.int .i64 i] 3)) B 3 (.slice la m lc) (ic l)/\(w1.alloc (.cells #[.int .i64 i] 3)).cell? ⟨w1.heap.size,0,none⟩=some (.int .i64 i)/\B<=(w1.alloc (.cells #[.int .i64 i] 3)).heap.size):=⟨(Below.refl _ w1).alloc nR _,HOC.out.1.alloc _,(AtC.new w1 3 #[.int .i64 i]).cell 0,by have:=HOC.out.2.1;simp;omega⟩
  have hdl:¬ dk=lk:=HP.out.dl;have hdl2:¬ lk=dk:=fun e=>HP.out.dl e.symm;go_wp2_with (at_builtin;refine wpList_step fun K' hK'=>?_;refine zal _ rfl (.tmp 10) (.tmp 12) 54 rfl B 3 Tryz.u54 _ 8 Tryz.i3 rfl (by decide) (.slice la m lc) (ic l) rfl HAL.out.2.1 HAL.out.2.2.2 w1.heap.size (.int .i64 i) rfl HAL.out.2.2.1 rfl (by rw [zaf];have:=HLL.out;omega) ?_;intro v9 w9 T9 G9 V9;obtain ⟨la9,lc9,rfl,-⟩:=T9.form;obtain ⟨m9,hm9⟩:∃ k,(ic l ++ [Value.int .i64 i]).length=k:=⟨_,rfl⟩;rw [hm9] at T9 V9 ⊢;refine hK' _ _ ?_;clear hm9;have HR9:=hide (HC.out.app (new:=l ++ [i]) HP.out HAL.out.1 (by simpa [ic] using T9) G9 V9);clear T9 G9 V9 hK';have f9:=HR9.out.1.frozen 0;have l9:=HR9.out.1.lt;have k9:w9.cell? ⟨lk,0,none⟩=some (.slice la m lc):=HR9.out.1.cell 0;have z0:w9.cell? ⟨dk,0,none⟩=some (.slice a1 xs.length c1):=HR9.out.2.2.2.cell 0;have z1:w9.cell? ⟨dk,1,none⟩=some (.slice a2 ys.length c2):=HR9.out.2.2.2.cell 1;have z2:w9.cell? ⟨dk,2,none⟩=some (.slice a3 is.length c3):=HR9.out.2.2.2.cell 2;have z3:w9.cell? ⟨dk,3,none⟩=some (.slice a4 bs.length c4):=HR9.out.2.2.2.cell 3)
  obtain ⟨W9,hW9⟩:∃ W,w9.setCell ⟨lk,0,none⟩ (.slice la9 m9 lc9)=W:=⟨_,rfl⟩
  rw [hW9] at HR9 ⊢;have HX9:=hide (And.intro HR9.out.2.1 HR9.out.2.2.1);clear hW9 HR9 f9 l9 k9 z0 z1 z2 z3 HAL p0 HC HOC;refine (HND.out _ (H0.out.below HX9.out.2.b nR)).mono ?_;rintro e w2 ⟨sv,rfl,S2,B2⟩;obtain ⟨sa,sc',rfl,-⟩:=S2.form;have HX2:=hide (And.intro (HX9.out.1.below B2) (HX9.out.2.below B2));have HS2:Hid (∀ wr cv,Lv w2 wr lk (.slice la9 m9 lc9) cv->SOwns wr W9.heap.size 100 (.slice sa (named is bs i).length sc') (named is bs i)):=fun wr cv hv=>S2.of_heap fun k hk=>hv.c.block k (S2.lt k hk).2 fun e=>by
   have h1:=(S2.lt k hk).1;have h2:=HP.out.l;have h3:=HX9.out.2.l.lt;rcases e with e | e
   ·omega
   ·have:=(HX9.out.2.o.lt k e).2;omega
  obtain ⟨NS,hNS⟩:∃ X,named is bs i=X:=⟨_,rfl⟩
  rw [hNS] at HS2 HEN HF0 HN8 ⊢;have HNS:=hide hNS;clear B2 S2 HX9 HND hNS;go_wp2_with fail
  go_loopw [18] (fun kv wr=>∃ (q:Nat) (c:List Int) (cv:Value),q<=NS.length/\kv=.int .i64 q/\Hid (DfsL (edge is bs) l c i (NS.map (·.2)) q/\Lv w2 wr lk (.slice la9 m9 lc9) cv/\Cx w0 B dk lk gq #[.slice a1 xs.length c1,.slice a2 ys.length c2,.slice a3 is.length c3,.slice a4 bs.length c4] #[.func (.func 146) #[] #[.pointer (some ⟨lk,0,none⟩),.pointer (some ⟨dk,0,none⟩),.pointer (some ⟨gq,0,none⟩)]] wr cv c)) (fun kv _=>NS.length - (intOf kv).toNat)
  case atStart=>exact ⟨0,_,_,Nat.zero_le _,rfl,HF0.out,Lv.refl _ _ _,HX2.out.2⟩
  case round =>
   obtain ⟨q,c,cv,hq,rfl,HL⟩:=hrel;have q0:(0:Int)<=(q:Int):=by omega
   by_cases hlt:q < NS.length
   rotate_left
   ·have q1:¬ ((q:Int) < (NS.length:Int)):=by omega
    go_wp2
    go_end0
    exact ⟨rfl,c,HL.out.1.done (by rw [List.length_map];omega) HEN.out,cv,HX2.out.1.trans HL.out.2.1,HL.out.2.2⟩
   have q1:(q:Int) < (NS.length:Int):=by omega
   have q8:NS.length<=8:=HN8.out;obtain ⟨gs,cs,es,ks0,ks1,-,-,hgs,-⟩:=(HS2.out wr cv HL.out.2.1).at q hlt;simp only [Value.slice.injEq,true_and] at es;obtain ⟨rfl,rfl⟩:=es;obtain ⟨⟨sn,si⟩,hsn⟩:∃ X,NS[q]=X:=⟨_,rfl⟩
   have hsi:(NS.map (·.2))[q]'(by rw [List.length_map];exact hlt)=si:=by rw [List.getElem_map,hsn]
   rw [hsn] at ks0 ks1;simp only at ks0 ks1;have hgw:¬ gs=wr.heap.size:=by omega
   have hdw:¬ dk=wr.heap.size:=by have:=HL.out.2.2.d.lt;omega
   have hfw:¬ gq=wr.heap.size:=by have:=HL.out.2.2.f.lt;omega
   have HL2:Hid (DfsL (edge is bs) l c i (NS.map (·.2)) q/\Lv w2 (wr.alloc (.cells #[.string sn,.int .i64 si] 100)) lk (.slice la9 m9 lc9) cv/\Cx w0 B dk lk gq #[.slice a1 xs.length c1,.slice a2 ys.length c2,.slice a3 is.length c3,.slice a4 bs.length c4] #[.func (.func 146) #[] #[.pointer (some ⟨lk,0,none⟩),.pointer (some ⟨dk,0,none⟩),.pointer (some ⟨gq,0,none⟩)]] (wr.alloc (.cells #[.string sn,.int .i64 si] 100)) cv c):=by
    have b:=(Below.refl _ wr).alloc nR (.cells #[.string sn,.int .i64 si] 100);exact ⟨HL.out.1,HL.out.2.1.below b,HL.out.2.2.below b⟩
   have hbox:AtC (wr.alloc (.cells #[.string sn,.int .i64 si] 100)) wr.heap.size 100 #[.string sn,.int .i64 si]:=AtC.new _ _ _;have HBX:=hide hbox;have z0:(wr.alloc (.cells #[.string sn,.int .i64 si] 100)).cell? ⟨dk,0,none⟩=some (.slice a1 xs.length c1):=HL2.out.2.2.d.cell 0;have z1:(wr.alloc (.cells #[.string sn,.int .i64 si] 100)).cell? ⟨dk,1,none⟩=some (.slice a2 ys.length c2):=HL2.out.2.2.d.cell 1;have z2:(wr.alloc (.cells #[.string sn,.int .i64 si] 100)).cell? ⟨dk,2,none⟩=some (.slice a3 is.length c3):=HL2.out.2.2.d.cell 2;have z3:(wr.alloc (.cells #[.string sn,.int .i64 si] 100)).cell? ⟨dk,3,none⟩=some (.slice a4 bs.length c4):=HL2.out.2.2.d.cell 3;have CN:=hide (HNK.out si (wr.alloc (.cells #[.string sn,.int .i64 si] 100)) (H0.out.below HL2.out.2.2.b nR));have hSN:∃ s∈named is bs i,s.2=si:=⟨NS[q],by rw [HNS.out];exact List.getElem_mem hlt,by rw [hsn]⟩
   have HSN:=hide hSN;clear hSN hbox hsn HL HF0;go_wp2_with fail
   refine CN.out.mono ?_;rintro e w3 ⟨rfl,B3⟩;have HL3:=hide (And.intro HL2.out.1 (And.intro (HL2.out.2.1.below B3) (HL2.out.2.2.below B3)));have p1:w3.cell? ⟨wr.heap.size,1,none⟩=some (.int .i64 si):=(HBX.out.over B3).cell 1;have g3:w3.cell? ⟨gq,0,none⟩=some (.func (.func 146) #[] #[.pointer (some ⟨lk,0,none⟩),.pointer (some ⟨dk,0,none⟩),.pointer (some ⟨gq,0,none⟩)]):=HL3.out.2.2.f.cell 0;clear B3 HL2 ks0 ks1 z0 z1 z2 z3 CN HBX;by_cases hk0:zab is si=0
   ·have hd:decide (¬ zab is si=0)=false:=by simp [hk0]
    rw [hd];have HS:=hide (HL3.out.1.skip (by rw [List.length_map];exact hlt) (by rw [hsi];exact fun ⟨_,_,_,h⟩=>h hk0));clear hd hk0 p1 g3;go_wp2;go_roundw
    case rel=>exact ⟨q+1,c,cv,by omega,by go_num,HS.out,HL3.out.2⟩
    case measure=>simp [intOf];omega
   have hd:decide (¬ zab is si=0)=true:=by simp [hk0]
   rw [hd];have hed:edge is bs i si:=by
    obtain ⟨s,h1,h2⟩:=HSN.out;exact ⟨s,h1,h2,hk0⟩
   have hlen:=HL3.out.1.len HE.out;have hsz:B<=w3.heap.size:=Nat.le_trans HBW.out (Nat.le_trans HX2.out.1.c.size HL3.out.2.1.c.size);have CI:=hide (IH.out si c cv w3 (by have:=HN.out;omega) HL3.out.1.nd HL3.out.1.r (HRI.out.step hed) HL3.out.2.2 hsz);clear hd hk0 hed hlen hsz;go_wp2_with fail
   refine CI.out.mono ?_;rintro e w4 ⟨rfl,l4,lv4,D4,L4,X4⟩;have HS:Hid (DfsL (edge is bs) l l4 i (NS.map (·.2)) (q+1)):=HL3.out.1.call (by rw [List.length_map];exact hlt) (by rw [hsi];exact D4);have HL4:=hide (And.intro (HL3.out.2.1.trans L4) X4);clear D4 L4 X4 CI p1 g3;go_wp2;go_roundw
   case rel=>exact ⟨q+1,l4,lv4,by omega,by go_num,HS.out,HL4.out⟩
   case measure=>simp [intOf];omega
def reachL (is:List Ino) (bs:List Blk):List Int:=rchL (edgeB is bs)
theorem zno (v:Value)(xs:List Int)(base:Nat)(w:World)(h:ROwns w base 3 v (ic xs))(hl:xs.length<=1000000) :
  Calls Tryz.prog 147 #[v] w fun e w'=>e=.returned (.tuple #[])/\ROwns w' base 3 v (ic (xs.mergeSort fun x y=>decide (x<=y)))/\w.grownBy w' v.ownBlock:=by
 have hm:(xs.mergeSort fun x y=>decide (x<=y)).length=xs.length:=List.length_mergeSort _;rcases h.2 with ⟨rfl,h0⟩ | ⟨g,cap,cur,rfl,h2,h3,h4,h5,h6,h7⟩
 ·have e:xs=[]:=List.length_eq_zero_iff.1 (by rw [← zaf];exact h0);subst e;refine (Tryz.slices_Sort_int_none none 0 w).mono ?_;rintro e w' ⟨rfl,rfl⟩;exact ⟨rfl,by simpa [ic] using ROwns.nil w' base 3,⟨rfl,rfl,rfl,Nat.le_refl _,fun _ _ _=>rfl⟩⟩
 ·rw [zaf] at h4 h7 ⊢;have hH:Go.Sort.Holds (Value.int .i64) w g 0 xs.toArray:=Go.holds_of_blockI h3 (by rw [Nat.mul_one] at h7;exact h7);have hg:g < w.heap.size:=(Array.getElem?_eq_some_iff.1 h3).1;refine (Tryz.slices_Sort_int g 0 cap xs w hH hg (by omega)).mono ?_;rintro e w' ⟨rfl,n,os,rfl⟩;refine ⟨rfl,?_,Go.grownBy_sortedI _⟩;have:=Go.ownsRow_sortedI (n:=n) (os:=os) (ts:=xs.mergeSort fun x y=>decide (x<=y)) (ss:=xs) hm h2 h3 h4 h5 h6;unfold ROwns;rw [zaf,hm];exact this
theorem za2 (dx dy iv bv:Value)(xs ys:List Bool)(is:List Ino)(bs:List Blk)(w:World)(h:DR w dx dy iv bv xs ys is bs)(hR:RD is bs) :
  Calls Tryz.prog 108 #[.agg #[dx,dy,iv,bv]] w fun e w'=>∃ v,e=.returned v/\ROwns w' w.heap.size 3 v (ic (reachL is bs))/\Below w.heap.size w w':=by
 obtain ⟨a1,c1,a2,c2,a3,c3,a4,c4,rfl,rfl,rfl,rfl⟩:=h.form;have hmf:∀ (fn:Fn) (first cap:Array Value) (w:World),(Instr.makeFunc fn first cap).run Tryz.prog w=.ok (.func fn first cap) w:=fun _ _ _ _=>rfl;have h8:=hR.hi;have CH:=hide (fun W=>zdv 1 (.slice a1 xs.length c1) (.slice a2 ys.length c2) (.slice a4 bs.length c4) a3 c3 W);rw [show inB 1 1 8=true from rfl,← h8] at CH;obtain ⟨W,hW⟩:∃ W,((w.alloc (.cells #[.slice a1 xs.length c1,.slice a2 ys.length c2,.slice a3 is.length c3,.slice a4 bs.length c4] 35)).alloc (.cells #[.slice none 0 0] 54)).alloc (.cells #[(.func (.func 146) #[] #[.pointer (some ⟨w.heap.size+1,0,none⟩),.pointer (some ⟨w.heap.size,0,none⟩),.pointer (some ⟨w.heap.size+1+1,0,none⟩)])] 158)=W:=⟨_,rfl⟩
 have hP:Pl w W.heap.size w.heap.size (w.heap.size+1) (w.heap.size+1+1):=by
  have:W.heap.size=w.heap.size+3:=by rw [← hW];simp
  exact ⟨by omega,by omega,by omega,by omega,by omega,by omega⟩
 have hX:Cx w W.heap.size w.heap.size (w.heap.size+1) (w.heap.size+1+1) #[.slice a1 xs.length c1,.slice a2 ys.length c2,.slice a3 is.length c3,.slice a4 bs.length c4] #[(.func (.func 146) #[] #[.pointer (some ⟨w.heap.size+1,0,none⟩),.pointer (some ⟨w.heap.size,0,none⟩),.pointer (some ⟨w.heap.size+1+1,0,none⟩)])] W (.slice none 0 0) []:=by
  rw [← hW];have a:=AtC.new (w.alloc (.cells #[.slice a1 xs.length c1,.slice a2 ys.length c2,.slice a3 is.length c3,.slice a4 bs.length c4] 35)) 54 #[.slice none 0 0];have b:=AtC.new ((w.alloc (.cells #[.slice a1 xs.length c1,.slice a2 ys.length c2,.slice a3 is.length c3,.slice a4 bs.length c4] 35)).alloc (.cells #[.slice none 0 0] 54)) 158 #[(.func (.func 146) #[] #[.pointer (some ⟨w.heap.size+1,0,none⟩),.pointer (some ⟨w.heap.size,0,none⟩),.pointer (some ⟨w.heap.size+1+1,0,none⟩)])];rw [World.size_alloc] at a;rw [World.size_alloc,World.size_alloc] at b;exact ⟨(((Below.refl _ w).alloc nR _).alloc (by simp) _).alloc (by simp;omega) _,((AtC.new w 35 _).alloc _).alloc _,b,a.alloc _,ROwns.nil _ _ _⟩
 have CR:Hid (∀ W',Below W.heap.size W W'->Calls Tryz.prog 146 #[.int .i64 1,.pointer (some ⟨w.heap.size+1,0,none⟩),.pointer (some ⟨w.heap.size,0,none⟩),.pointer (some ⟨w.heap.size+1+1,0,none⟩)] W' fun e w'=>e=.returned (.tuple #[])/\∃ l' lv',Dfs (edge is bs) [] l' 1/\Lv W' w' (w.heap.size+1) (.slice none 0 0) lv'/\Cx w W.heap.size w.heap.size (w.heap.size+1) (w.heap.size+1+1) #[.slice a1 xs.length c1,.slice a2 ys.length c2,.slice a3 is.length c3,.slice a4 bs.length c4] #[(.func (.func 146) #[] #[.pointer (some ⟨w.heap.size+1,0,none⟩),.pointer (some ⟨w.heap.size,0,none⟩),.pointer (some ⟨w.heap.size+1+1,0,none⟩)])] w' lv' l'):=fun W' hb =>
  znn a1 a2 a3 a4 c1 c2 c3 c4 xs ys is bs hR w h W.heap.size w.heap.size (w.heap.size+1) (w.heap.size+1+1) hP 8 1 [] _ W' (by simp) (by simp) (by simp) (Rch.root _) (hX.below hb) hb.size
 have HX:=hide hX;have HE:=hide (zef hR);have HP:=hide hP;obtain ⟨z0,z1,z2,z3⟩:=AtC.four hX.d;have HG0:Hid (∀ W',Below W.heap.size W W'->W'.cell? ⟨w.heap.size+1+1,0,none⟩=some (.func (.func 146) #[] #[.pointer (some ⟨w.heap.size+1,0,none⟩),.pointer (some ⟨w.heap.size,0,none⟩),.pointer (some ⟨w.heap.size+1+1,0,none⟩)])):=fun W' b=>(hX.f.over b).cell 0;clear h hR hX hP h8;go_enter Tryz.func108,Tryz.ntmps108
 go_upto_region 4 with fail
 clear hW;go_wp2_with fail
 refine (CH.out _).mono ?_;rintro e w1 ⟨rfl,rfl⟩;have HBA:Hid (Below W.heap.size W (W.alloc (.cells #[.slice a1 xs.length c1,.slice a2 ys.length c2,.slice a3 is.length c3,.slice a4 bs.length c4] 35))):=(Below.refl _ W).alloc nR _;have g0:=HG0.out _ HBA.out;have CR1:=hide (CR.out _ HBA.out);clear CH CR HG0;go_wp2_with fail
 refine CR1.out.mono ?_;rintro e w2 ⟨rfl,l2,lv2,D2,L2,X2⟩;have hl8:=zkz D2.nd fun j hj=>(D2.r j hj).range HE.out;have CS:=hide (zno lv2 l2 W.heap.size w2 X2.o (by omega));rw [znl (zdy is bs) HE.out D2.nd D2.r D2.me (fun j hj k hk=>D2.cl j hj (by simp) k hk)] at CS;have HX2:=hide X2;obtain ⟨la,lc,rfl,-⟩:=X2.o.form;have k0:w2.cell? ⟨w.heap.size+1,0,none⟩=some (.slice la (ic l2).length lc):=X2.l.cell 0;obtain ⟨m,hm⟩:∃ m,(ic l2).length=m:=⟨_,rfl⟩
 rw [hm] at CS HX2 k0;clear D2 L2 X2 CR1 g0 hm hl8 z0 z1 z2 z3;go_wp2_with fail
 refine CS.out.mono ?_;rintro e w3 ⟨rfl,R3,G3⟩;have A3:AtC w3 (w.heap.size+1) 54 #[.slice la m lc]:=HX2.out.l.grown G3 (fun e=>by have:=(HX2.out.o.lt _ e).1;have:=HP.out.l;omega);have k3:w3.cell? ⟨w.heap.size+1,0,none⟩=some (.slice la m lc):=A3.cell 0;have HF:Hid (ROwns w3 w.heap.size 3 (.slice la m lc) (ic (reachL is bs))/\Below w.heap.size w w3):=by
  have hp:=HP.out.d;refine ⟨R3.base_le (by omega),HX2.out.b.grown G3 HX2.out.b.size (fun k hk=>by have:=(HX2.out.o.lt k hk).1;omega)⟩
 clear R3 G3 A3 CS k0 HX2;go_wp2;go_ret;exact ⟨_,rfl,HF.out⟩
namespace Kit
def hA (h:List Bool):Array Value:=(h.map Value.bool).toArray
theorem zdz (h:List Bool)(k:Nat)(hk:k < h.length):(hA h)[k]?=some (.bool (h.getD k false)):=by
 simp [hA,hk]
theorem zgj (h:List Bool)(k:Nat)(b:Bool):(hA h).setIfInBounds k (.bool b)=hA (h.set k b):=by
 simp [hA,List.map_set]
structure Hs (w wr:World) (D:Array Value) (h:List Bool):Prop where
 b:Below w.heap.size w wr
 d:AtC wr w.heap.size 35 D
 a:AtC wr (w.heap.size+1) 4 (hA h)
theorem Hs.below {w wr wr':World}{D:Array Value}{h:List Bool}(H:Hs w wr D h)(hb:Below wr.heap.size wr wr'):Hs w wr' D h:=⟨H.b.trans (hb.mono H.b.size),H.d.over hb,H.a.over hb⟩
theorem Hs.set {w wr:World}{D:Array Value}{h:List Bool}(H:Hs w wr D h)(k:Nat):Hs w (wr.setCell ⟨w.heap.size+1,k,none⟩ (.bool true)) D (h.set k true) :=
 ⟨H.b.setCell (p:=⟨w.heap.size+1,k,none⟩) (by show w.heap.size<=w.heap.size+1;omega) _,H.d.other (by omega) _,by rw [← zgj];exact H.a.set k _⟩
theorem Hs.grown {w wr wr':World}{D:Array Value}{h:List Bool}{row:Option Nat}(H:Hs w wr D h)(hg:wr.grownBy wr' row)(hr:∀ k,row=some k->w.heap.size+1 < k):Hs w wr' D h :=
 ⟨H.b.grown hg H.b.size (fun k hk=>by have:=hr k hk;omega),H.d.grown hg (fun e=>by have:=hr _ e;omega),H.a.grown hg (fun e=>by have:=hr _ e;omega)⟩
end Kit
theorem zbn (v:Value)(l:List Int)(x:Int)(w:World)(h:RInts w v l)(hl:l.length<=1048576) :
  Calls Tryz.prog 39 #[v,.int .i64 x] w fun e w'=>e=.returned (.bool (l.contains x))/\w'=w:=by
 obtain ⟨a1,c1,rfl,ha⟩:=h;have HA:=hide ha;clear ha;go_enter Tryz.func39,Tryz.ntmps39
 go_wp2;go_loopw [5] (fun i wr=>∃ j:Nat,j<=l.length/\i=.int .i64 j/\w=wr/\Hid ((l.take j).contains x=false)) (fun i _=>l.length - (intOf i).toNat)
 case atStart=>exact ⟨0,Nat.zero_le _,rfl,rfl,by show (l.take 0).contains x=false;simp⟩
 case round =>
  obtain ⟨j,hj,rfl,rfl,HT⟩:=hrel;by_cases hlt:j < l.length
  ·obtain ⟨g1,o1,rfl,_,k1⟩:=HA.out j hlt;have HJ:Hid (l[j]∈l/\(l.take (j+1)).contains x=((l.take j).contains x || x == l[j])):=by
    refine ⟨List.getElem_mem hlt,?_⟩;rw [show l.take (j+1)=l.take j ++ [l[j]] from (List.take_append_getElem hlt).symm];exact Bool.eq_iff_iff.2 (by simp only [List.contains_iff_mem,List.mem_append,List.mem_singleton,Bool.or_eq_true,beq_iff_eq])
   obtain ⟨t,ht⟩:∃ t,l[j]=t:=⟨_,rfl⟩
   rw [ht] at k1 HJ;clear ht;have j0:(0:Int)<=(j:Int):=by omega
   have j1:(j:Int) < (l.length:Int):=by omega
   by_cases hx:t=x
   ·subst hx;go_wp2;go_ret;have:=HJ.out.1;exact ⟨by rw [show l.contains t=true by simpa using this];rfl,rfl⟩
   ·have HX:=hide hx;go_wp2;go_roundw
    case rel =>
     refine ⟨j+1,by omega,by go_num,by first | trivial | rfl,?_⟩;show (l.take (j+1)).contains x=false;have q:=HX.out;rw [HJ.out.2,HT.out,Bool.false_or];exact beq_false_of_ne (fun e=>q e.symm)
    case measure=>simp [intOf];omega
  ·have hj2:j=l.length:=by omega
   have HF:Hid (l.contains x=false):=by
    have:=HT.out;rw [hj2,List.take_length] at this;exact this
   go_wp2;go_ret;exact ⟨by rw [HF.out];rfl,rfl⟩
theorem zav (dx dy iv bv:Value)(xs ys:List Bool)(is:List Ino)(bs:List Blk)(w:World)(h:DR w dx dy iv bv xs ys is bs)(hR:RD is bs) :
  Calls Tryz.prog 38 #[.agg #[dx,dy,iv,bv]] w fun e w'=>∃ v,e=.returned v/\ROwns w' w.heap.size 3 v (ic (reachL is bs))/\Below w.heap.size w w':=by
 obtain ⟨a1,c1,a2,c2,a3,c3,a4,c4,rfl,rfl,rfl,rfl⟩:=h.form;have h8:=hR.hi;have CS:Hid (∀ (x:Int) (W:World),Below w.heap.size w W->Calls Tryz.prog 87 #[.agg #[.slice a1 xs.length c1,.slice a2 ys.length c2,.slice a3 8 c3,.slice a4 bs.length c4],.int .i64 x] W fun e w'=>∃ v,e=.returned v/\SOwns w' W.heap.size 100 v (named is bs x)/\Below W.heap.size W w'):=by
  have:=fun (x:Int) (W:World) (hb:Below w.heap.size w W)=>zfm x _ _ _ _ xs ys is bs W (h.below hb nR) hR;rw [h8] at this;exact this
 have HIN:Hid (∀ (j:Nat),j < 8->∃ g2 o2:Nat,a3=some ⟨g2,o2,none⟩/\g2 < w.heap.size/\w.cell? ⟨g2,o2+j * 3,none⟩=some (.int .i64 (zab is ((j:Int)+1)))):=fun j hj=>by
  obtain ⟨qa,qc,qe,-,qh⟩:=h.i;simp only [Value.slice.injEq,true_and] at qe;obtain ⟨rfl,rfl⟩:=qe;have hj':j < is.length:=by omega
  obtain ⟨g2,o2,⟨t0,t1,t2⟩,rfl,hg2,r0,r1,r2,e0,e1,rr⟩:=qh j hj';simp only at e0 r0;exact ⟨g2,o2,rfl,hg2,by rw [(zai hj').1,r0,e0]⟩
 have HE:=hide (zef hR);have HN8:Hid (∀ x,(named is bs x).length<=8):=hR.named8;rw [h8];have HS0:Hid (Hs w ((w.alloc (.cells #[.slice a1 xs.length c1,.slice a2 ys.length c2,.slice a3 8 c3,.slice a4 bs.length c4] 35)).alloc (.cells ((hA [false,false,false,false,false,false,false,false]).setIfInBounds 0 (.bool true)) 4)) #[.slice a1 xs.length c1,.slice a2 ys.length c2,.slice a3 8 c3,.slice a4 bs.length c4] [true,false,false,false,false,false,false,false]):=by
  have a:=AtC.new (w.alloc (.cells #[.slice a1 xs.length c1,.slice a2 ys.length c2,.slice a3 8 c3,.slice a4 bs.length c4] 35)) 4 ((hA [false,false,false,false,false,false,false,false]).setIfInBounds 0 (.bool true));rw [World.size_alloc] at a;exact ⟨((Below.refl _ w).alloc nR _).alloc (by simp) _,(AtC.new w 35 _).alloc _,a⟩
 have hmk:∀ W:World,(Instr.makeSlice 22 (.int .i64 8) (.int .i64 8)).run Tryz.prog W=.ok (.slice (some ⟨W.heap.size,0,none⟩) 8 8) (W.alloc (.cells (hA [false,false,false,false,false,false,false,false]) 4)):=make8;have k0:((w.alloc (.cells #[.slice a1 xs.length c1,.slice a2 ys.length c2,.slice a3 8 c3,.slice a4 bs.length c4] 35)).alloc (.cells (hA [false,false,false,false,false,false,false,false]) 4)).cell? ⟨w.heap.size+1,0,none⟩=some (.bool false):=by
  have a:=AtC.new (w.alloc (.cells #[.slice a1 xs.length c1,.slice a2 ys.length c2,.slice a3 8 c3,.slice a4 bs.length c4] 35)) 4 (hA [false,false,false,false,false,false,false,false]);rw [World.size_alloc] at a;exact a.cell 0
 clear h hR h8;go_enter Tryz.func38,Tryz.ntmps38
 go_upto_region 5 with fail
 clear k0 hmk;obtain ⟨W,hW⟩:∃ W,((w.alloc (.cells #[.slice a1 xs.length c1,.slice a2 ys.length c2,.slice a3 8 c3,.slice a4 bs.length c4] 35)).alloc (.cells ((hA [false,false,false,false,false,false,false,false]).setIfInBounds 0 (.bool true)) 4))=W:=⟨_,rfl⟩
 rw [hW] at HS0 ⊢;clear hW;go_wp2_with fail
 go_loopw [4] (fun kv wr=>∃ (r:Nat) (h:List Bool),r<=8/\kv=.int .i64 r/\Hid (Rnd (edge is bs) h r/\Hs w wr #[.slice a1 xs.length c1,.slice a2 ys.length c2,.slice a3 8 c3,.slice a4 bs.length c4] h)) (fun kv _=>8 - (intOf kv).toNat)
 case atStart=>exact ⟨0,_,Nat.zero_le _,rfl,Rnd.begin _,HS0.out⟩
 case round =>
  clear HS0;obtain ⟨r,h0,hr,rfl,HR⟩:=hrel;have r0:(0:Int)<=(r:Int):=by omega
  by_cases hlt:r < 8
  rotate_left
  ·have r1:¬ ((r:Int) < 8):=by omega
   obtain rfl:r=8:=by omega
   have HOU:Hid (outL h0 8=reachL is bs):=znm (zdy is bs) HE.out HR.out.1.s HR.out.1.full;have HL0:Hid (ROwns (wr.alloc (.cells #[] 3)) (wr.heap.size) 3 (.slice (some ⟨wr.heap.size,0,none⟩) 0 0) (ic (outL h0 0))/\Hs w (wr.alloc (.cells #[] 3)) #[.slice a1 xs.length c1,.slice a2 ys.length c2,.slice a3 8 c3,.slice a4 bs.length c4] h0/\wr.heap.size<=(wr.alloc (.cells #[] 3)).heap.size):=⟨ROwns.lit0 wr wr.heap.size 3 nR,HR.out.2.below ((Below.refl _ wr).alloc nR _),by simp⟩
   have HLT:=hide HR.out.2.a.lt;have H8:=hide HR.out.1.s.n;clear HR;obtain ⟨wq,hwq⟩:∃ wq,wq=wr:=⟨_,rfl⟩
   subst hwq;go_wp2_with fail
   go_loopw [9,10] (fun x9 kk wz=>∃ (lv:Value) (q:Nat),lv=x9/\q<=8/\kk=.int .i64 q/\Hid (ROwns wz wq.heap.size 3 lv (ic (outL h0 q))/\Hs w wz #[.slice a1 xs.length c1,.slice a2 ys.length c2,.slice a3 8 c3,.slice a4 bs.length c4] h0/\wq.heap.size<=wz.heap.size)) (fun _ kk _=>8 - (intOf kk).toNat)
   case atStart=>exact ⟨_,0,rfl,Nat.zero_le _,rfl,HL0.out⟩
   case round =>
    clear HL0;obtain ⟨lv,q,hlv,hq,rfl,HQ⟩:=hrel;subst hlv;have q0:(0:Int)<=(q:Int):=by omega
    by_cases hq8:q < 8
    rotate_left
    ·have q1:¬ ((q:Int) < 8):=by omega
     go_wp2;go_ret;obtain rfl:q=8:=by omega
     refine ⟨_,rfl,?_,HQ.out.2.1.b⟩;rw [← HOU.out];exact HQ.out.1.base_le (by have:=HLT.out;omega)
    have q1:(q:Int) < 8:=by omega
    have kq:=(HQ.out.2.1.a.cell q).trans (zdz h0 q (by rw [H8.out];exact hq8));have HSU:=hide (zni h0 q)
    cases hbq:h0.getD q false with
    | false =>
     rw [hbq] at kq HSU;have HEQ:Hid (outL h0 (q+1)=outL h0 q):=by
      have:=HSU.out;rw [if_neg (by simp),List.append_nil] at this;exact this
     clear hbq;go_wp2;go_roundw
     case rel=>exact ⟨lv,q+1,rfl,by omega,by go_num,by rw [HEQ.out];exact HQ.out⟩
     case measure=>simp [intOf];omega
    | true =>
     rw [hbq] at kq HSU;have HEQ:Hid (ic (outL h0 (q+1))=ic (outL h0 q) ++ [.int .i64 ((q:Int)+1)]):=by
      have:=HSU.out;rw [if_pos rfl] at this;show ic _=_;rw [this];simp [ic]
     have HAL:Hid (Below wr.heap.size wr (wr.alloc (.cells #[.int .i64 ((q:Int)+1)] 3))/\ROwns (wr.alloc (.cells #[.int .i64 ((q:Int)+1)] 3)) wq.heap.size 3 lv (ic (outL h0 q))/\(wr.alloc (.cells #[.int .i64 ((q:Int)+1)] 3)).cell? ⟨wr.heap.size,0,none⟩=some (.int .i64 ((q:Int)+1))/\wq.heap.size<=(wr.alloc (.cells #[.int .i64 ((q:Int)+1)] 3)).heap.size):=by
      refine ⟨(Below.refl _ wr).alloc nR _,HQ.out.1.alloc _,(AtC.new wr 3 #[.int .i64 ((q:Int)+1)]).cell 0,?_⟩;have:=HQ.out.2.2;simp;omega
     have HQL:Hid ((ic (outL h0 q)).length<=100000000000):=by
      have:=outL_len h0 q;show _<=_;rw [zaf];omega
     have HGR:Hid (∀ w',(wr.alloc (.cells #[.int .i64 ((q:Int)+1)] 3)).grownBy w' lv.ownBlock->Hs w w' #[.slice a1 xs.length c1,.slice a2 ys.length c2,.slice a3 8 c3,.slice a4 bs.length c4] h0):=fun w' g=>(HQ.out.2.1.below HAL.out.1).grown g (fun k hk=>by have:=(HQ.out.1.lt k hk).1;have:=HLT.out;omega);clear hbq;go_wp2_with (at_builtin;refine wpList_step fun K' hK'=>?_;refine zal _ rfl (.tmp 83) (.tmp 86) 54 rfl wq.heap.size 3 Tryz.u54 _ 8 Tryz.i3 rfl (by decide) lv _ rfl HAL.out.2.1 HAL.out.2.2.2 wr.heap.size (.int .i64 ((q:Int)+1)) rfl HAL.out.2.2.1 rfl HQL.out ?_;intro v9 w9 T9 G9 V9;refine hK' _ _ ?_;rw [← HEQ.out] at T9;have HR9:=hide (And.intro T9 (And.intro (HGR.out w9 G9) (Nat.le_trans HAL.out.2.2.2 G9.size)));clear T9 G9 V9 hK')
     go_roundw
     case rel=>exact ⟨v9,q+1,rfl,by omega,by go_num,HR9.out⟩
     case measure=>simp [intOf];omega
  have r1:(r:Int) < 8:=by omega
  have HP0:Hid (Pass (edge is bs) h0 h0 0/\Hs w wr #[.slice a1 xs.length c1,.slice a2 ys.length c2,.slice a3 8 c3,.slice a4 bs.length c4] h0):=⟨Pass.begin HR.out.1.s,HR.out.2⟩
  have HRN:=hide HR.out.1;clear HR;go_wp2_with fail
  go_loopw [5] (fun iv wz=>∃ (i:Nat) (h:List Bool),i<=8/\iv=.int .i64 ((i:Int)+1)/\Hid (Pass (edge is bs) h0 h i/\Hs w wz #[.slice a1 xs.length c1,.slice a2 ys.length c2,.slice a3 8 c3,.slice a4 bs.length c4] h)) (fun iv _=>9 - (intOf iv).toNat)
  case atStart=>exact ⟨0,_,Nat.zero_le _,rfl,HP0.out⟩
  case round =>
   clear HP0;obtain ⟨i,h,hi,rfl,HI⟩:=hrel;by_cases hi8:i < 8
   rotate_left
   ·have i1:¬ ((i:Int)+1<=8):=by omega
    obtain rfl:i=8:=by omega
    have HNX:=hide (HRN.out.next HE.out HI.out.1);go_wp2;go_roundw
    case rel=>exact ⟨r+1,h,by omega,by go_num,HNX.out,HI.out.2⟩
    case measure=>simp [intOf];omega
   have i1:(i:Int)+1<=8:=by omega
   have i0:(0:Int)<=(i:Int):=by omega
   have i8:(i:Int) < 8:=by omega
   have hwi:IntKind.i64.wrap (i:Int)=(i:Int):=wrap_small _ (by omega) (by omega);obtain ⟨z0,z1,z2,z3⟩:=AtC.four HI.out.2.d;have CS1:=hide (CS.out ((i:Int)+1) wr HI.out.2.b);have HEM:Hid (∀ k,edge is bs ((i:Int)+1) k->k∈(named is bs ((i:Int)+1)).map (·.2)):=fun k ⟨s,hs,e,_⟩=>by rw [← e];exact List.mem_map_of_mem hs
   have HED:Hid (∀ s∈named is bs ((i:Int)+1),¬ zab is s.2=0->edge is bs ((i:Int)+1) s.2):=fun s hs hk=>⟨s,hs,rfl,hk⟩
   have hN8:=HN8.out ((i:Int)+1);go_wp2_with fail
   refine CS1.out.mono ?_;rintro e w2 ⟨sv,rfl,S2,B2⟩;obtain ⟨sa,sc',rfl,-⟩:=S2.form;have HI2:=hide (And.intro HI.out.1 (HI.out.2.below B2));have HSR:=hide (And.intro S2 HI.out.2.a.lt);obtain ⟨NS,hNS⟩:∃ X,named is bs ((i:Int)+1)=X:=⟨_,rfl⟩
   simp only [hNS] at HEM HED HSR hN8 ⊢;obtain ⟨wb,hwb⟩:∃ b,wr.heap.size=b:=⟨_,rfl⟩
   rw [hwb] at HSR;clear S2 B2 hNS z0 z1 z2 z3 CS1 HI hwb
   cases hbi:h.getD i false with
   | false =>
    have ki:=(HI2.out.2.a.cell i).trans (zdz h i (by rw [HI2.out.1.s.n];exact hi8));rw [hbi] at ki;have HNX:=hide (HI2.out.1.skip hbi);clear hbi;by_cases hn0:NS.length=0
    ·have n1:¬ ((0:Int) < (NS.length:Int)):=by omega
     go_wp2_with fail
     go_rounds 1
     go_roundw
     case rel=>exact ⟨i+1,h,by omega,by go_num,HNX.out,HI2.out.2⟩
     case measure=>simp [intOf];omega
    ·have n1:(0:Int) < (NS.length:Int):=by omega
     go_wp2_with fail
     go_rounds 1
     go_roundw
     case rel=>exact ⟨i+1,h,by omega,by go_num,HNX.out,HI2.out.2⟩
     case measure=>simp [intOf];omega
   | true =>
   have HP1:Hid (PassIn (edge is bs) h0 h i (NS.map (·.2)) 0):=⟨HI2.out.1,hbi,fun k hk=>by simp at hk⟩
   clear hbi;go_wp2_with fail
   go_loopw [7] (fun kv wz=>∃ (t:Nat) (h:List Bool),t<=NS.length/\kv=.int .i64 t/\Hid (PassIn (edge is bs) h0 h i (NS.map (·.2)) t/\Hs w wz #[.slice a1 xs.length c1,.slice a2 ys.length c2,.slice a3 8 c3,.slice a4 bs.length c4] h/\SOwns wz wb 100 (.slice sa NS.length sc') NS)) (fun kv _=>NS.length - (intOf kv).toNat)
   case atStart=>exact ⟨0,h,Nat.zero_le _,rfl,HP1.out,HI2.out.2,HSR.out.1⟩
   case round =>
    clear HP1 HI2;obtain ⟨t,h,ht,rfl,HT⟩:=hrel;have t0:(0:Int)<=(t:Int):=by omega
    by_cases htl:t < NS.length
    rotate_left
    ·have t1:¬ ((t:Int) < (NS.length:Int)):=by omega
     have HNX:=hide (HT.out.1.done (by rw [List.length_map];omega) HEM.out);go_wp2;go_roundw
     case rel=>exact ⟨i+1,h,by omega,by go_num,HNX.out,HT.out.2.1⟩
     case measure=>simp [intOf];omega
    have t1:(t:Int) < (NS.length:Int):=by omega
    have ki:=(HT.out.2.1.a.cell i).trans (zdz h i (by rw [HT.out.1.p.s.n];exact hi8));rw [HT.out.1.m] at ki;obtain ⟨gs,cs,es,ks0,ks1,-,-,hgs,-⟩:=HT.out.2.2.at t htl;simp only [Value.slice.injEq,true_and] at es;obtain ⟨rfl,rfl⟩:=es;obtain ⟨⟨sn,si⟩,hsn⟩:∃ X,NS[t]=X:=⟨_,rfl⟩
    have hsi:(NS.map (·.2))[t]'(by rw [List.length_map];exact htl)=si:=by rw [List.getElem_map,hsn]
    have hse:¬ zab is si=0->edge is bs ((i:Int)+1) si:=fun hk=>by
     have:=HED.out NS[t] (List.getElem_mem htl);rw [hsn] at this;exact this hk
    rw [hsn] at ks0 ks1;simp only at ks0 ks1;have HSI:=hide (And.intro hsi hse);have z2:wr.cell? ⟨w.heap.size,2,none⟩=some (.slice a3 8 c3):=HT.out.2.1.d.cell 2;clear hsn hsi hse
    cases hin:inB si 1 8 with
    | false =>
     have hk0:zab is si=0:=by
      by_cases e:zab is si=0
      ·exact e
      ·have:=HE.out _ _ (HSI.out.2 e);have:inB si 1 8=true:=by simp [inB];omega
       rw [this] at hin;cases hin
     have HNX:Hid (PassIn (edge is bs) h0 h i (NS.map (·.2)) (t+1)):=HT.out.1.skip (by rw [List.length_map];exact htl) (by rw [HSI.out.1];exact fun ⟨_,_,_,e⟩=>e hk0);have HIB:=hide hin;clear hk0 hin;go_wp2_with (go_at_call 80;refine (zam si 1 8 _).mono ?_;rintro e w7 ⟨rfl,rfl⟩;rw [HIB.out])
     go_roundw
     case rel=>exact ⟨t+1,h,by omega,by go_num,HNX.out,HT.out.2⟩
     case measure=>simp [intOf];omega
    | true =>
    obtain ⟨h1,h2⟩:=zao hin;obtain ⟨j,rfl⟩:∃ j:Nat,si=(j:Int)+1:=⟨(si - 1).toNat,by omega⟩
    have hj8:j < 8:=by omega
    have j0:(0:Int)<=(j:Int):=by omega
    have j1:(j:Int) < 8:=by omega
    have hwj:IntKind.i64.wrap (j:Int)=(j:Int):=wrap_small _ (by omega) (by omega);obtain ⟨g2,o2,rfl,hg2,hkc⟩:=HIN.out j hj8;have y0:=(HT.out.2.1.b.cell (p:=⟨g2,o2+j * 3,none⟩) hg2).trans hkc;have HIB:=hide hin;clear hin h1 h2 hkc;by_cases hk0:zab is ((j:Int)+1)=0
    ·have HNX:Hid (PassIn (edge is bs) h0 h i (NS.map (·.2)) (t+1)):=HT.out.1.skip (by rw [List.length_map];exact htl) (by rw [HSI.out.1];exact fun ⟨_,_,_,e⟩=>e hk0);rw [hk0] at y0;clear hk0;go_wp2_with (go_at_call 80;refine (zam ((j:Int)+1) 1 8 _).mono ?_;rintro e w7 ⟨rfl,rfl⟩;rw [HIB.out])
     go_roundw
     case rel=>exact ⟨t+1,h,by omega,by go_num,HNX.out,HT.out.2⟩
     case measure=>simp [intOf];omega
    obtain ⟨kd,hkd⟩:∃ k,zab is ((j:Int)+1)=k:=⟨_,rfl⟩
    have HNX:Hid (PassIn (edge is bs) h0 (h.set j true) i (NS.map (·.2)) (t+1)):=by
     have:=HT.out.1.set (t:=t) (by rw [List.length_map];exact htl) (by rw [HSI.out.1];exact HSI.out.2 hk0) (by rw [HSI.out.1];omega);rw [HSI.out.1,show ((j:Int)+1 - 1).toNat=j by omega] at this;exact this
    rw [hkd] at y0 hk0;have hkb:(kd != 0)=true:=by simp [hk0]
    have kj:=(HT.out.2.1.a.cell j).trans (zdz h j (by rw [HT.out.1.p.s.n];exact hj8));have fj:=HT.out.2.1.a.frozen j;have HST:Hid (Hs w (wr.setCell ⟨w.heap.size+1,j,none⟩ (.bool true)) #[.slice a1 xs.length c1,.slice a2 ys.length c2,.slice (some ⟨g2,o2,none⟩) 8 c3,.slice a4 bs.length c4] (h.set j true)/\SOwns (wr.setCell ⟨w.heap.size+1,j,none⟩ (.bool true)) wb 100 (.slice (some ⟨gs,0,none⟩) NS.length sc') NS):=⟨HT.out.2.1.set j,HT.out.2.2.setCell_low (by have:=HSR.out.2;exact this) _⟩
    obtain ⟨bj,hbj⟩:∃ b,h.getD j false=b:=⟨_,rfl⟩
    rw [hbj] at kj;clear hkd hk0 hbj;go_wp2_with (go_at_call 80;refine (zam ((j:Int)+1) 1 8 _).mono ?_;rintro e w7 ⟨rfl,rfl⟩;rw [HIB.out])
    go_roundw
    case rel=>exact ⟨t+1,h.set j true,by omega,by go_num,HNX.out,HST.out⟩
    case measure=>simp [intOf];omega
namespace Kit
abbrev Pr:=Int×Int
def pc:List Pr->List Value
 | []=>[]
 | s :: r=>.int .i64 s.1 :: .int .i64 s.2 :: pc r
theorem znp (xs:List Pr):(pc xs).length=xs.length * 2:=by
 induction xs with
 | nil=>rfl
 | cons s r ih=>simp [pc,ih];omega
theorem znq (a b:List Pr):pc (a ++ b)=pc a ++ pc b:=by
 induction a with
 | nil=>rfl
 | cons s r ih=>simp [pc,ih]
theorem pc_name (xs:List Pr)(j:Nat)(h:j < xs.length):(pc xs)[j * 2]?=some (.int .i64 xs[j].1):=by
 induction xs generalizing j with
 | nil=>simp at h
 | cons s r ih =>
  cases j with
  | zero=>rfl
  | succ j =>
   rw [show (j+1) * 2=j * 2+1+1 by omega];simp only [pc,List.getElem?_cons_succ,List.getElem_cons_succ];exact ih j (by simpa using h)
theorem pc_ino (xs:List Pr)(j:Nat)(h:j < xs.length):(pc xs)[j * 2+1]?=some (.int .i64 xs[j].2):=by
 induction xs generalizing j with
 | nil=>simp at h
 | cons s r ih =>
  cases j with
  | zero=>rfl
  | succ j =>
   rw [show (j+1) * 2+1=j * 2+1+1+1 by omega];simp only [pc,List.getElem?_cons_succ,List.getElem_cons_succ];exact ih j (by simpa using h)
def POwns (w:World) (base:Nat) (e:TypeId) (v:Value) (xs:List Pr):Prop:=w.ownsRow base e 2 v xs.length (pc xs)
theorem POwns.alloc {w:World}{base:Nat}{e:TypeId}{v:Value}{l:List Pr}(h:POwns w base e v l)(o:Obj):POwns (w.alloc o) base e v l:=World.ownsRow.alloc h o
theorem POwns.drew {w:World}{base:Nat}{e:TypeId}{v:Value}{l:List Pr}(h:POwns w base e v l):POwns w.drew base e v l:=World.ownsRow.drew h
theorem POwns.nil (w:World)(base:Nat)(e:TypeId):POwns w base e (.slice none 0 0) []:=World.ownsRow_nil _ _ _ _
theorem POwns.lit (w:World)(base:Nat)(e:TypeId)(cs:Array Value)(xs:List Pr)(hc:cs.toList=pc xs)(hb:base<=w.heap.size)(hm:xs.length<=maxLen):POwns (w.alloc (.cells cs e)) base e (.slice (some ⟨w.heap.size,0,none⟩) xs.length xs.length) xs:=by
 have h1:cs.size=xs.length * 2:=by rw [← Array.length_toList,hc,znp]
 have:=World.ownsRow_lit (base:=base) (e:=e) (size:=2) w cs xs.length hb hm h1;unfold POwns
 rwa [hc] at this
theorem POwns.lt {w:World}{base:Nat}{e:TypeId}{v:Value}{l:List Pr}(h:POwns w base e v l):∀ k,v.ownBlock=some k->base<=k/\k < w.heap.size:=World.ownsRow.lt h
theorem POwns.base_le {w:World}{base base':Nat}{e:TypeId}{v:Value}{l:List Pr}(h:POwns w base e v l)(hb:base'<=base):POwns w base' e v l:=by
 refine ⟨h.1,?_⟩;rcases h.2 with h1 | ⟨g,cap,cur,h1,h2,h3⟩
 ·exact .inl h1
 ·exact .inr ⟨g,cap,cur,h1,by omega,h3⟩
theorem POwns.form {w:World}{base:Nat}{e:TypeId}{v:Value}{l:List Pr}(h:POwns w base e v l):∃ a cap,v=.slice a l.length cap/\(a=none->l=[]):=by
 rcases h.2 with ⟨rfl,h0⟩ | ⟨g,cap,cur,rfl,_⟩
 ·exact ⟨none,0,by rw [h0],fun _=>List.length_eq_zero_iff.1 h0⟩
 ·exact ⟨_,_,rfl,fun h=>by cases h⟩
theorem POwns.of_heap {w w':World}{base:Nat}{e:TypeId}{v:Value}{l:List Pr}(h:POwns w base e v l)(hh:∀ k,v.ownBlock=some k->w'.heap[k]?=w.heap[k]?):POwns w' base e v l:=by
 refine ⟨h.1,?_⟩;rcases h.2 with h1 | ⟨g,cap,cur,h1,h2,h3,h4⟩
 ·exact .inl h1
 ·exact .inr ⟨g,cap,cur,h1,h2,by rw [hh g (by rw [h1];rfl),h3],h4⟩
theorem POwns.below {w w':World}{base B:Nat}{e:TypeId}{v:Value}{l:List Pr}(h:POwns w base e v l)(hb:Below B w w')(hB:w.heap.size<=B):POwns w' base e v l :=
 h.of_heap fun k hk=>hb.block k (by have:=(h.lt k hk).2;omega)
theorem POwns.grown {w w':World}{base:Nat}{e:TypeId}{v:Value}{l:List Pr}{row:Option Nat}(h:POwns w base e v l)(hg:w.grownBy w' row)(hn:∀ k,v.ownBlock=some k->row≠some k):POwns w' base e v l :=
 h.of_heap fun k hk=>hg.block k (h.lt k hk).2 (fun e=>hn k hk e.symm)
theorem POwns.setCell_other {w:World}{base:Nat}{e:TypeId}{v:Value}{l:List Pr}(h:POwns w base e v l){b j:Nat}(hp:v.ownBlock≠some b)(x:Value):POwns (w.setCell ⟨b,j,none⟩ x) base e v l :=
 h.of_heap fun k hk=>heap_setCell_other w ⟨b,j,none⟩ k x (fun e=>by simp at e;subst e;exact hp hk)
theorem POwns.setCell_low {w:World}{base:Nat}{e:TypeId}{v:Value}{l:List Pr}(h:POwns w base e v l){b j:Nat}(hp:b < base)(x:Value):POwns (w.setCell ⟨b,j,none⟩ x) base e v l :=
 h.setCell_other (fun e=>by have:=(h.lt b e).1;omega) x
theorem POwns.at {w:World}{base:Nat}{e:TypeId}{v:Value}{l:List Pr}(h:POwns w base e v l)(k:Nat)(hk:k < l.length) :
  ∃ g cap,v=.slice (some ⟨g,0,none⟩) l.length cap/\w.cell? ⟨g,k * 2,none⟩=some (.int .i64 l[k].1)/\w.cell? ⟨g,k * 2+1,none⟩=some (.int .i64 l[k].2)/\(∀ j,w.frozen? ⟨g,j,none⟩=false)/\base<=g/\g < w.heap.size/\l.length<=cap:=by
 have hlt:=h.lt;rcases h.2 with ⟨h1,h0⟩ | ⟨g,cap,cur,rfl,h2,h3,h4,h5,h6,h7⟩
 ·omega
 ·have h':w.ownsRow base e 2 (.slice (some ⟨g,0,none⟩) l.length cap) l.length (pc l):=h;exact ⟨g,cap,rfl,(h'.cellAt _ (by omega)).trans (pc_name l k hk),(h'.cellAt _ (by omega)).trans (pc_ino l k hk),h'.frozenAt,h2,(hlt g rfl).2,h4⟩
def RPr (w:World) (v:Value) (xs:List Pr):Prop:=∃ a cap,v=.slice a xs.length cap/\xs.length<=cap/\∀ (j:Nat) (h:j < xs.length),∃ g off,a=some ⟨g,off,none⟩/\g < w.heap.size/\w.cell? ⟨g,off+j * 2,none⟩=some (.int .i64 xs[j].1)/\w.cell? ⟨g,off+j * 2+1,none⟩=some (.int .i64 xs[j].2)
theorem RPr.below {w w':World}{B:Nat}{v:Value}{xs:List Pr}(h:RPr w v xs)(hb:Below B w w')(hB:w.heap.size<=B):RPr w' v xs:=by
 obtain ⟨a,cap,rfl,hcap,h⟩:=h;refine ⟨a,cap,rfl,hcap,fun j hj=>?_⟩;obtain ⟨g,off,e,hg,hc,hd⟩:=h j hj;exact ⟨g,off,e,Nat.lt_of_lt_of_le hg hb.size,(hb.cell (p:=⟨g,off+j * 2,none⟩) (Nat.lt_of_lt_of_le hg hB)).trans hc,(hb.cell (p:=⟨g,off+j * 2+1,none⟩) (Nat.lt_of_lt_of_le hg hB)).trans hd⟩
theorem RPr.alloc {w:World}{v:Value}{xs:List Pr}(h:RPr w v xs)(o:Obj):RPr (w.alloc o) v xs:=h.below ((Below.refl _ w).alloc nR o) nR
theorem RPr.drew {w:World}{v:Value}{xs:List Pr}(h:RPr w v xs):RPr w.drew v xs:=h
theorem RPr.form {w:World}{v:Value}{xs:List Pr}(h:RPr w v xs):∃ a c,v=.slice a xs.length c:=by
 obtain ⟨a,c,h,_⟩:=h;exact ⟨a,c,h⟩
theorem POwns.rpr {w:World}{base:Nat}{e:TypeId}{v:Value}{xs:List Pr}(h:POwns w base e v xs):RPr w v xs:=by
 rcases h.2 with ⟨rfl,h0⟩ | ⟨g,cap,cur,rfl,_,_,hcap,_⟩
 ·have:xs=[]:=List.length_eq_zero_iff.1 h0;subst this;exact ⟨none,0,rfl,Nat.le_refl _,fun j hj=>absurd hj (Nat.not_lt_zero _)⟩
 ·refine ⟨_,cap,rfl,hcap,fun j hj=>?_⟩;obtain ⟨g',c',e1,k1,k2,_,_,k5,_⟩:=h.at j hj;simp only [Value.slice.injEq,Option.some.injEq,Addr.mk.injEq] at e1;obtain ⟨⟨rfl,-,-⟩,-,rfl⟩:=e1;exact ⟨g,0,rfl,k5,by rw [Nat.zero_add];exact k1,by rw [Nat.zero_add];exact k2⟩
end Kit
theorem Tryz.u124:Tryz.prog.underlying 124=some (.slice 127):=by kernel_rfl
theorem Tryz.i127:(Tryz.prog.info? 127).map (fun i=>(i.zero,i.size,i.bytes))=some (some (.agg #[.int .i64 0,.int .i64 0]),2,16):=by kernel_rfl
theorem zf5 (W:World){ops:Array Oper}{o:Oper}{a:Act}{K:Act->World->Prop}{Q:Exit->Act->World->Prop}{E:Prop}(hgd:o.guard=none)(s x:Operand)
  (ho:o.op=.call { callee:=.builtin .append,args:=#[s,x],argTypes:=#[124,124] }) (base:Nat) (v:Value) (l:List Pr) (hs:a.eval s=v) (hown:POwns W base 127 v l) (hbase:base<=W.heap.size)
  (g:Nat) (nm:Int) (io:Int) (hx:a.eval x=.slice (some ⟨g,0,none⟩) 1 1) (hc:AtC W g 127 #[.int .i64 nm,.int .i64 io]) (hl:l.length<=100000000000)
  (h:∀ v' w',POwns w' base 127 v' (l ++ [(nm,io)])->W.grownBy w' v.ownBlock->(∀ k,v'.ownBlock=some k->v.ownBlock=some k\/W.heap.size<=k)->K (a.put o.dst v') w') :
  if Region.wanted o (yielded ops a.tmps)=true then Oper.wp Tryz.prog o a W K Q else E:=by
 obtain ⟨i0,hi,hz0,hz1,hz2⟩:=info_parts Tryz.i127;refine step_append_lies _ hgd s x 124 ho base 127 i0 _ 2 16 Tryz.u124 hi hz0 hz1 hz2 rfl (by decide) v l.length (pc l) hs hown ⟨g,0,none⟩ 1 1 [.int .i64 nm,.int .i64 io] hx rfl ?_ ?_ (by decide) ?_ ?_ hbase W.heap.size rfl ?_
 ·intro j u hj;have:=(hc.cell j).trans (show (#[.int .i64 nm,.int .i64 io]:Array Value)[j]?=some u by simpa using hj);by_cases e:j=0
  ·subst e;simpa [Addr.add] using this
  ·simpa [Addr.add,e] using this
 ·intro u hu;simp only [List.mem_cons,List.not_mem_nil,or_false] at hu;rcases hu with rfl | rfl<;>rfl
 ·unfold maxLen;omega
 ·omega
 ·intro g' cap w' hown' hgrow hat _;refine h _ w' ?_ hgrow fun k hk=>?_
  ·show w'.ownsRow base 127 2 _ (l ++ [(nm,io)]).length (pc (l ++ [(nm,io)]));rw [List.length_append,znq];exact hown'
  ·simp only [Value.ownBlock,Option.some.injEq] at hk;subst hk;rcases hat with hat | hat
   ·exact .inl hat
   ·exact .inr (by omega)
theorem zfn (W:World){ops:Array Oper}{o:Oper}{a:Act}{K:Act->World->Prop}{Q:Exit->Act->World->Prop}{E:Prop}(hgd:o.guard=none)(s x:Operand)
  (ho:o.op=.call { callee:=.builtin .append,args:=#[s,x],argTypes:=#[72,72] }) (B:Nat) (v:Value) (ns:List Sl) (hs:a.eval s=v) (hown:SOwns W B 100 v ns) (hB:B<=W.heap.size)
  (u:Value) (ms:List Sl) (hx:a.eval x=u) (hu:RSl W u ms) (hl:ns.length<=100000000000) (hm:ms.length<=100000000)
  (h:∀ v' w',SOwns w' B 100 v' (ns ++ ms)->W.grownBy w' v.ownBlock->(∀ k,v'.ownBlock=some k->v.ownBlock=some k\/W.heap.size<=k)->K (a.put o.dst v') w') :
  if Region.wanted o (yielded ops a.tmps)=true then Oper.wp Tryz.prog o a W K Q else E:=by
 obtain ⟨i0,hi,hz0,hz1,hz2⟩:=info_parts Tryz.i100;obtain ⟨a1,c1,rfl,hle⟩:∃ a1 c1,v=.slice a1 ns.length c1/\ns.length<=c1:=by
  obtain ⟨a1,c1,e,h1,-⟩:=hown.rsl;exact ⟨a1,c1,e,h1⟩
 obtain ⟨a2,c2,rfl,hc2,hcell⟩:=hu
 cases ms with
 | nil =>
  rw [if_pos (by simp [Region.wanted,hgd])];have hsrc:Src Tryz.prog i0.size 72 (.slice a2 0 c2) 0 [] W:=by
   cases a2 with
   | none=>exact Src.ofNil W Tryz.u72 c2
   | some a2=>exact Src.ofSlice W Tryz.u72 a2 0 c2 [] (by simp) (fun j u hj=>by simp at hj) (fun u h=>by cases h)
  have hr:=run_append_nothing W 72 72 o.type 100 i0 Tryz.u72 hi a1 ns.length c1 hle (.slice a2 0 c2) hsrc;have hx':a.eval x=.slice a2 0 c2:=hx;unfold Oper.wp execOp;simp only [ho,resolve,invoke,builtin,Sem.run_bind,Sem.run_pure,Result.andThen_ok,List.map_toArray,List.map_cons,List.map_nil,hs,hx',hr];exact h _ W (by rw [List.append_nil];exact hown) (zcn bR _) (fun k hk=>.inl hk)
 | cons y r =>
  obtain ⟨g,off,rfl,-,-,-⟩:=hcell 0 (by simp);refine step_append_lies _ hgd s x 72 ho B 100 i0 _ 2 24 Tryz.u72 hi hz0 hz1 hz2 rfl (by decide) _ ns.length (sc ns) hs hown ⟨g,off,none⟩ (y :: r).length c2 (sc (y :: r)) hx (by rw [zb5]) ?_ (zm2 _) (by simp) ?_ ?_ hB W.heap.size rfl ?_
  ·intro j u' hj;have hj2:j < (y :: r).length * 2:=by
    rw [← zb5];exact (List.getElem?_eq_some_iff.1 hj).1
   obtain ⟨g2,o2,e3,-,k0,k1⟩:=hcell (j / 2) (by omega);simp only [Option.some.injEq,Addr.mk.injEq,and_true] at e3;obtain ⟨rfl,rfl⟩:=e3;have hadd:(⟨g,off,none⟩:Addr).add j=⟨g,off+j,none⟩:=by
    by_cases e:j=0
    ·subst e;simp [Addr.add]
    ·simp [Addr.add,e]
   rw [hadd];rcases Nat.mod_two_eq_zero_or_one j with e | e
   ·have e2:j / 2 * 2=j:=by omega
    have:=zg1 (y :: r) (j / 2) (by omega);rw [e2] at k0 this;rw [k0,← this,hj]
   ·have e2:j / 2 * 2+1=j:=by omega
    have:=zkn (y :: r) (j / 2) (by omega);rw [e2] at this;rw [Nat.add_assoc,e2] at k1;rw [k1,← this,hj]
  ·unfold maxLen;simp only [List.length_cons] at hm ⊢;omega
  ·simp only [List.length_cons] at hm ⊢;omega
  ·intro g' cap' w' q1 q2 q3 _;refine h _ w' ?_ q2 fun k hk=>?_
   ·show w'.ownsRow B 100 2 _ (ns ++ y :: r).length (sc (ns ++ y :: r));rw [List.length_append,zib];exact q1
   ·simp only [Value.ownBlock,Option.some.injEq] at hk;subst hk;rcases q3 with q3 | q3
    ·exact .inl q3
    ·exact .inr (by omega)
def zbh (is:List Ino) (bs:List Blk):List Sl:=(reachL is bs).flatMap (named is bs)
theorem zah (is:List Ino)(bs:List Blk):(reachL is bs).length<=8:=rchL_len _
theorem zd0 {α β:Type}(l:List α)(f:α->List β)(q:Nat)(h:q < l.length):(l.take (q+1)).flatMap f=(l.take q).flatMap f ++ f l[q]:=by
 rw [List.take_succ_eq_append_getElem h,List.flatMap_append,List.flatMap_cons,List.flatMap_nil,List.append_nil]
theorem zd1 {is:List Ino}{bs:List Blk}(h:RD is bs)(l:List Int):(l.flatMap (named is bs)).length<=l.length * 8:=za9 l fun i _=>h.named8 i
theorem zdc {is:List Ino}{bs:List Blk}(h:RD is bs):(zbh is bs).length<=64:=by
 have h1:=zd1 h (reachL is bs);have h2:=zah is bs;unfold zbh;omega
def zan (is:List Ino) (bs:List Blk) (i:Int):Nat:=(zbh is bs).countP fun s=>decide (s.2=i)
theorem zcp {α:Type}(l:List α)(p:α->Bool)(q:Nat)(h:q < l.length):(l.take (q+1)).countP p=(l.take q).countP p+if p l[q]=true then 1 else 0:=by
 rw [List.take_succ_eq_append_getElem h,List.countP_append,List.countP_cons,List.countP_nil,Nat.zero_add]
theorem zbt {α:Type}(l:List α)(p:α->Bool)(q:Nat):(l.take q).countP p<=l.length:=Nat.le_trans List.countP_le_length (by rw [List.length_take];omega)
theorem znr {is:List Ino}{bs:List Blk}(h:RD is bs)(i:Int):zan is bs i<=64:=Nat.le_trans List.countP_le_length (zdc h)
end Go.Proofs.YtmlfihmheolpeaaGreat
