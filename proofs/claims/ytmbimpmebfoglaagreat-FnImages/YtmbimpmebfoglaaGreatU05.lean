/- Texts of the proof, bundled. -/
import Derived.BigRegion
import Derived.Test.YtmbimpmebfoglaaGreatRows
import Derived.Laws.Bits128
import Derived.Deep.QuietTactic
import Derived.BigQuiet
import Derived.Deep.RegionWith
import Derived.Deep.DeepCutAuto
import Derived.Deep.CutRange
import Derived.Deep.RegionHeld3
import Derived.RangeFuncNested
import Derived.RangeFuncBound
import Derived.RangeFuncCalls
import Derived.RangeFuncLeaves
import Derived.Shelf.Abstract
import Derived.Shelf.RegionOpen
import Derived.WalkKit
import Derived.OwnWalkIn
import Derived.TacticsInMore
import Derived.LoopNIn
import Derived.LoopIn
import Derived.Handy
import Derived.RegionTactic
import Derived.Test.YtmbimpmebfoglaaGreatU01
import Derived.Test.YtmbimpmebfoglaaGreatU04
import Derived.Test.YtmbimpmebfoglaaGreatU03
import Derived.Test.YtmbimpmebfoglaaGreatU02
set_option maxRecDepth 100000
set_option maxHeartbeats 12800000
namespace Go.Proofs.YtmbimpmebfoglaaGreat
namespace Kit
open Go.RowKit
section
variable {P : Program} {ops : Array Oper} {Q : Exit -> Act -> World -> Prop}
theorem upd_same {α:Type}(x:Nat->α)(j:Nat):upd x j (x j)=x:=funext fun i=>by
 unfold upd
 split
 ·rename_i e;rw [e]
 ·rfl
theorem zdk {id:Nat}{w:World}{a0:Act}(hm:P.follows .mixedOrders=true)(js:List Nat)(st:Nat)(need:List Nat)(L:Nat->Mk)(act:(Nat->Value)->Act)(x0:Nat->Value)(ha:a0=act x0)(F:(Nat->Value)->(Nat->Nat×Nat)->World->World)
  (ok:zb8 .any ops (st :: js) []=true) (okl:zby .any ops (st :: js) []=true) (okd:zdb ops js (fun i=>(L i).deps)=true) (okn:zdb ops [st] (fun _=>need)=true) (hsz:0+(st :: js).length=ops.size) (hst:st ∉ js) (hdj:∀ j∈js,st ∉ (L j).deps)
  (hF:∀ j v p x iv W,j ∉ need->F (upd x j v) (upd iv j p) W=F x iv W)
  (prod:∀ j∈js,∀ s x iv W,(∀ k∈(L j).deps,k∈s)->PX w.drew s (fun i lo hi w x=>(L i).P lo hi w (x i) x) x iv W->∀ K:Act->World->Prop,(∀ v W',Below W.heap.size W W'->(L j).P W.heap.size W'.heap.size W' v (upd x j v)->K (act (upd x j v)) W')->wpOp P ops Q j K (act x) W)
  (prod2:∀ j∈js,j ∉ need->∀ s x iv W',(∀ k∈(L j).deps,k∈s)->PX w.drew s (fun i lo hi w x=>(L i).P lo hi w (x i) x) x iv W'->∀ (W:World) (K:Act->World->Prop),(∀ v,(L j).P W'.heap.size W'.heap.size W' v (upd x j v)->K (act (upd x j v)) W)->wpOp P ops Q j K (act x) W)
  (store:∀ s x iv W,(∀ k∈need,k∈s)->PX w.drew s (fun i lo hi w x=>(L i).P lo hi w (x i) x) x iv W->∀ K:Act->World->Prop,K (act x) (F x iv W)->wpOp P ops Q st K (act x) W)
  (done:∀ x iv W,PX w.drew js (fun i lo hi w x=>(L i).P lo hi w (x i) x) x iv W->Q .normal (act x) (F x iv W)):(Code.region id ops true).wp P Q a0 w:=by
 have depG:∀ (D:Nat->List Nat) (l:List Nat),zdb ops l D=true->∀ j∈l,∀ s,j∈Region.ready .any ops (mask ops.size s)->∀ k∈D j,k∈s:=by
  intro D l okl j hj s hr k hk;have h:=List.all_eq_true.1 okl j hj
  exact cQ36
 subst ha;refine wp_region_any hm ?_;have h:=zcx (P:=P) (Q:=Q) (md:=.any) (st :: js) [] 0 act (fun s x W=>((∀ i∈s,i≠st->∀ k∈(L i).deps,k∈s)/\∀ i∈s,i∈st :: js)/\((st ∉ s/\∃ iv,PX w.drew s (fun i lo hi w x=>(L i).P lo hi w (x i) x) x iv W)\/(st∈s/\(∀ k∈need,k∈s)/\∃ iv W',PX w.drew (s.filter (· != st)) (fun i lo hi w x=>(L i).P lo hi w (x i) x) x iv W'/\W=F x iv W'))) ok ?_ ?_ ?_ (st :: js).length 0 [] x0 w.drew (List.length_filter_le _ _) nR (fun i hi=>by cases hi) (fun i hi=>by cases hi) ⟨⟨(fun i hi=>by cases hi),(fun i hi=>by cases hi)⟩,.inl ⟨by simp,fun _=>(0,0),⟨Below.refl _ _,(fun i hi=>by cases hi),(fun i hi=>by cases hi),(fun i hi=>by cases hi)⟩⟩⟩
 ·rw [hsz,zes] at h;exact h
 ·intro j hj s x W hr hns hI K hK;obtain ⟨⟨hcl,hin⟩,hI⟩:=hI;have hin2:∀ i∈j :: s,i∈st :: js:=fun i hi=>(List.mem_cons.1 hi).elim (fun e=>e ▸ hj) (hin i);rcases List.mem_cons.1 hj with rfl | hj
  ·have hnd:=depG (fun _=>need) [j] okn j (by simp) s hr;rcases hI with ⟨h1,iv,hp⟩ | ⟨h1,-⟩
   ·refine store s x iv W hnd hp K ?_;have:=hK (x j) (F x iv W);rw [upd_same] at this;refine this ⟨⟨fun i hi hne k hk=>?_,hin2⟩,.inr ⟨by simp,fun k hk=>List.mem_cons_of_mem _ (hnd k hk),iv,W,hp.of_mem fun i hi=>?_,rfl⟩⟩
    ·rcases List.mem_cons.1 hi with e | hi
     ·exact absurd e hne
     ·exact List.mem_cons_of_mem _ (hcl i hi hne k hk)
    ·have:=List.mem_filter.1 hi;rcases List.mem_cons.1 this.1 with e | hi
     ·rw [e] at this;simp at this
     ·exact hi
   ·exact absurd h1 hns
  ·have hd:=depG (fun i=>(L i).deps) js okd j hj s hr;have hjst:j≠st:=fun e=>hst (e ▸ hj);rcases hI with ⟨h1,iv,hp⟩ | ⟨h1,hnd,iv,W',hp,rfl⟩
   ·refine prod j hj s x iv W hd hp K fun v W' hb hpo=>hK v W' ⟨⟨fun i hi hne k hk=>?_,hin2⟩,.inl ⟨fun e=>?_,_,hp.add (fun i=>(L i).deps) (fun i lo hi w w' x h hb=>(L i).st lo hi w w' (x i) x h hb) (fun i lo hi w x x' e1 e2 h=>by rw [← e1];exact (L i).cg lo hi w (x i) x x' e2 h) (fun i hi k hk=>hcl i hi (fun e=>h1 (e ▸ hi)) k hk) hns hb (by rw [zay];exact hpo)⟩⟩
    ·exact cQ97
    ·rcases List.mem_cons.1 e with e | e
     ·exact hjst e.symm
     ·exact h1 e
   ·have hjn:j ∉ need:=fun e=>hns (hnd j e);have hd2:∀ k∈(L j).deps,k∈s.filter (· != st):=fun k hk=>List.mem_filter.2 ⟨hd k hk,by simp;exact fun e=>hdj j hj (e ▸ hk)⟩;refine prod2 j hj hjn _ x iv W' hd2 hp (F x iv W') K fun v hpo=>hK v (F x iv W') ⟨⟨fun i hi hne k hk=>?_,hin2⟩,.inr ⟨List.mem_cons_of_mem _ h1,fun k hk=>List.mem_cons_of_mem _ (hnd k hk),upd iv j (W'.heap.size,W'.heap.size),W',?_,?_⟩⟩
    ·exact cQ97
    ·have hn2:¬ j∈s.filter (· != st):=fun e=>hns (List.mem_filter.1 e).1;have hcl2:∀ i∈s.filter (· != st),∀ k∈(L i).deps,k∈s.filter (· != st):=fun i hi k hk=>by
      have h3:=List.mem_filter.1 hi;have hne:i≠st:=by simpa using h3.2
      refine List.mem_filter.2 ⟨hcl i h3.1 hne k hk,?_⟩;have hij:i∈js:=(List.mem_cons.1 (hin i h3.1)).elim (fun e=>absurd e hne) (fun e=>e);simp;exact fun e=>hdj i hij (e ▸ hk)
     have:=hp.add (j:=j) (v:=v) (fun i=>(L i).deps) (fun i lo hi w w' x h hb=>(L i).st lo hi w w' (x i) x h hb) (fun i lo hi w x x' e1 e2 h=>by rw [← e1];exact (L i).cg lo hi w (x i) x x' e2 h) hcl2 hn2 bR (by rw [zay];exact hpo);refine this.of_mem fun i hi=>?_;have h3:=List.mem_filter.1 hi;rcases List.mem_cons.1 h3.1 with e | e
     ·rw [e];simp
     ·exact List.mem_cons_of_mem _ (List.mem_filter.2 ⟨e,h3.2⟩)
    ·rw [hF j v _ x iv W' hjn]
 ·intro s x W f hf hs hI;obtain ⟨-,hI⟩:=hI;rcases hI with ⟨h1,-⟩ | ⟨h1,hnd,iv,W',hp,rfl⟩
  ·exact absurd (hs st (by simp)) h1
  ·refine zbs [] (st :: js) f (act x) _ okl (Nat.zero_le _) ?_;have:=done x iv W' (hp.of_mem fun i hi=>List.mem_filter.2 ⟨hs i (List.mem_cons_of_mem _ hi),by simp;exact fun e=>hst (e ▸ hi)⟩);simpa [wpList] using this
 ·intro t ht
  cases ht
end
end Kit
namespace Kit
open Go.RowKit
def MkU3 (ds:List Nat) (R:Nat->Nat->World->Value->Value->Value->Prop) (hst:∀ lo hi w w' a r q,R lo hi w a r q->Below w.heap.size w w'->R lo hi w' a r q):Mk:=.val ds (fun lo hi w v=>∃ a r q,v=.tuple #[a,r,q]/\R lo hi w a r q)
 (fun lo hi w w' _ h hb=>by obtain ⟨a,r,q,h1,h2⟩:=h;exact ⟨a,r,q,h1,hst lo hi w w' a r q h2 hb⟩)
def MkId (k:Nat):Mk:=.val1 [k] k (by simp) (fun _ _ _ u v=>v=u) (fun _ _ _ _ _ _ h _=>h)
def CallW (lo hi:Nat) (w:World) (a r q:Value):Prop:=∃ (z1:Option Addr) (y1:Nat) (z2:Option Addr) (y2:Nat) (z3:Option Addr) (y3:Nat) (z4:Option Addr) (y4:Nat) (z5:Option Addr) (y5:Nat) (z6:Option Addr) (y6:Nat) (m':MD) (cc:Int) (rr:Bool),a=.agg #[.slice z1 m'.xs.length y1,.slice z2 m'.ys.length y2,.slice z3 m'.is.length y3,.slice z4 m'.bs.length y4,.slice z5 m'.fs.length y5,.slice z6 m'.ds.length y6,.int .i64 m'.nx]/\r=.int .i64 cc/\q=.bool rr/\(rr=true->MO w (fun k=>lo<=k/\k < hi) (.slice z1 m'.xs.length y1) (.slice z2 m'.ys.length y2) (.slice z3 m'.is.length y3) (.slice z4 m'.bs.length y4) (.slice z5 m'.fs.length y5) (.slice z6 m'.ds.length y6) m'/\Sh Z0 m')
theorem CallW.below (lo hi:Nat)(w w':World)(a r q:Value)(h:CallW lo hi w a r q)(hb:Below w.heap.size w w'):CallW lo hi w' a r q:=by
 obtain ⟨z1,y1,z2,y2,z3,y3,z4,y4,z5,y5,z6,y6,m',cc,rr,h1,h2,h3,h4⟩:=h;exact ⟨z1,y1,z2,y2,z3,y3,z4,y4,z5,y5,z6,y6,m',cc,rr,h1,h2,h3,fun e=>⟨(h4 e).1.below hb nR,(h4 e).2⟩⟩
structure WBd (wx w:World) (B b n:Nat) (a1 a2 a3 a4 a5 a6 ta ma ka pa:Option Addr) (c1 c2 c3 c4 c5 c6 tc mc kc pl pc:Nat) (m:MD) (ts:List ByteArray) (ns:List Nd) (cs:List Int) (E:Array Value):Prop where
 bx:AtC wx b 89 #[.slice a1 m.xs.length c1,.slice a2 m.ys.length c2,.slice a3 m.is.length c3,.slice a4 m.bs.length c4,.slice a5 m.fs.length c5,.slice a6 m.ds.length c6,.int .i64 m.nx,.slice ta ts.length tc,.slice ma ns.length mc,.slice ka cs.length kc,.slice pa pl pc]
 wp:Wp wx B b n a1 a2 a3 a4 a5 a6 ta ma ka pa c1 c2 c3 c4 c5 c6 tc mc kc pl pc m ts ns cs
 ev:AtC wx w.heap.size 94 E
 gr:w.grownBy wx (some b)
theorem WBd.below {wx wx' w:World}{B b n:Nat}{a1 a2 a3 a4 a5 a6 ta ma ka pa:Option Addr}{c1 c2 c3 c4 c5 c6 tc mc kc pl pc:Nat}{m:MD}{ts:List ByteArray}{ns:List Nd}{cs:List Int}{E:Array Value}(h:WBd wx w B b n a1 a2 a3 a4 a5 a6 ta ma ka pa c1 c2 c3 c4 c5 c6 tc mc kc pl pc m ts ns cs E)(hb:Below wx.heap.size wx wx'):WBd wx' w B b n a1 a2 a3 a4 a5 a6 ta ma ka pa c1 c2 c3 c4 c5 c6 tc mc kc pl pc m ts ns cs E:=⟨h.bx.over hb,h.wp.below hb,h.ev.over hb,zad h.gr (zam hb _)⟩
def WBc (w wx:World) (B b n:Nat) (E:Array Value):Prop:=∃ (a1 a2 a3 a4 a5 a6 ta ma ka pa:Option Addr) (c1 c2 c3 c4 c5 c6 tc mc kc pl pc:Nat) (m:MD) (ts:List ByteArray) (ns:List Nd) (cs:List Int),AtC wx b 89 #[.slice a1 m.xs.length c1,.slice a2 m.ys.length c2,.slice a3 m.is.length c3,.slice a4 m.bs.length c4,.slice a5 m.fs.length c5,.slice a6 m.ds.length c6,.int .i64 m.nx,.slice ta ts.length tc,.slice ma ns.length mc,.slice ka cs.length kc,.slice pa pl pc]/\Wp wx B b (n+1) a1 a2 a3 a4 a5 a6 ta ma ka pa c1 c2 c3 c4 c5 c6 tc mc kc pl pc m ts ns cs/\cs.length<=n/\AtC wx w.heap.size 94 E/\w.grownBy wx (some b)
theorem WBd.wbc {wx w:World}{B b n:Nat}{a1 a2 a3 a4 a5 a6 ta ma ka pa:Option Addr}{c1 c2 c3 c4 c5 c6 tc mc kc pl pc:Nat}{m:MD}{ts:List ByteArray}{ns:List Nd}{cs:List Int}{E:Array Value}(h:WBd wx w B b n a1 a2 a3 a4 a5 a6 ta ma ka pa c1 c2 c3 c4 c5 c6 tc mc kc pl pc m ts ns cs E):WBc w wx B b n E:=⟨a1,a2,a3,a4,a5,a6,ta,ma,ka,pa,c1,c2,c3,c4,c5,c6,tc,mc,kc,pl,pc,m,ts,ns,cs,h.bx,h.wp.more (by omega),h.wp.cl,h.ev,h.gr⟩
def FsI (lo hi:Nat) (w:World) (a:Value):Prop:=∃ (n1:Option Addr) (o1:Nat) (n2:Option Addr) (o2:Nat) (n3:Option Addr) (o3:Nat) (n4:Option Addr) (o4:Nat) (n5:Option Addr) (o5:Nat) (n6:Option Addr) (o6:Nat) (n7:Option Addr) (o7:Nat) (mf:MD) (tf:List ByteArray),a=.agg #[.slice n1 mf.xs.length o1,.slice n2 mf.ys.length o2,.slice n3 mf.is.length o3,.slice n4 mf.bs.length o4,.slice n5 mf.fs.length o5,.slice n6 mf.ds.length o6,.int .i64 mf.nx,.slice n7 tf.length o7]/\MO w (fun k=>lo<=k/\k < hi) (.slice n1 mf.xs.length o1) (.slice n2 mf.ys.length o2) (.slice n3 mf.is.length o3) (.slice n4 mf.bs.length o4) (.slice n5 mf.fs.length o5) (.slice n6 mf.ds.length o6) mf/\ROwns w lo 9 (.slice n7 tf.length o7) (stc tf)/\(∀ k,(Value.slice n7 tf.length o7).ownBlock=some k->k < hi)/\Sh Z0 mf/\DvOk tf
def FsR (lo hi:Nat) (w:World) (a r:Value):Prop:=FsI lo hi w a/\∃ b,r=.bool b
theorem FsR.below (lo hi:Nat)(w w':World)(a r:Value)(h:FsR lo hi w a r)(hb:Below w.heap.size w w'):FsR lo hi w' a r:=by
 obtain ⟨⟨n1,o1,n2,o2,n3,o3,n4,o4,n5,o5,n6,o6,n7,o7,mf,tf,h1,h2,h3,h4,h5⟩,h6⟩:=h;exact ⟨⟨n1,o1,n2,o2,n3,o3,n4,o4,n5,o5,n6,o6,n7,o7,mf,tf,h1,h2.below hb nR,h3.below hb nR,h4,h5⟩,h6⟩
def st8v (W:World) (b:Nat) (v:Value):World:=match v with
 | .agg xs=>(((((((W.setCell ⟨b,0,none⟩ (xs.getD 0 undef)).setCell ⟨b,1,none⟩ (xs.getD 1 undef)).setCell ⟨b,2,none⟩ (xs.getD 2 undef)).setCell ⟨b,3,none⟩ (xs.getD 3 undef)).setCell ⟨b,4,none⟩ (xs.getD 4 undef)).setCell ⟨b,5,none⟩ (xs.getD 5 undef)).setCell ⟨b,6,none⟩ (xs.getD 6 undef)).setCell ⟨b,7,none⟩ (xs.getD 7 undef)
 | _=>W
def st7v (W:World) (b:Nat) (v:Value):World:=match v with
 | .agg xs=>((((((W.setCell ⟨b,0,none⟩ (xs.getD 0 undef)).setCell ⟨b,1,none⟩ (xs.getD 1 undef)).setCell ⟨b,2,none⟩ (xs.getD 2 undef)).setCell ⟨b,3,none⟩ (xs.getD 3 undef)).setCell ⟨b,4,none⟩ (xs.getD 4 undef)).setCell ⟨b,5,none⟩ (xs.getD 5 undef)).setCell ⟨b,6,none⟩ (xs.getD 6 undef)
 | _=>W
end Kit
open Go.RowKit Kit
theorem do_any (B b n:Nat)(kd:Int)(p q:ByteArray)(at_:Int)(tx:ByteArray)(w:World)(h:WB w B b n)(hn:n<=100)(hk1:1<=kd)(hk7:kd<=7)(hp:p.size<=8 * n+3)(hq:q.size<=8 * n+3)(ht:tx.size<=16) :
  Calls Tryz.prog 39 #[.pointer (some ⟨b,0,none⟩),.agg #[.int .i64 kd,.string p,.string q,.int .i64 at_,.string tx]] w fun e w'=>e=.returned (.tuple #[])/\WB w' B b (n+1)/\w.grownBy w' (some b):=by
 obtain ⟨a1,a2,a3,a4,a5,a6,ta,ma,ka,pa,c1,c2,c3,c4,c5,c6,tc,mc,kc,pl,pc,m,ts,ns,cs,hbx,hwp,hBb⟩:=h;obtain ⟨W0,hW0⟩:∃ W0,w.alloc (.cells #[.int .i64 kd,.string p,.string q,.int .i64 at_,.string tx] 94)=W0:=⟨_,rfl⟩
 have HC:Hid (∀ W,Below W0.heap.size W0 W->AtC W b 89 #[.slice a1 m.xs.length c1,.slice a2 m.ys.length c2,.slice a3 m.is.length c3,.slice a4 m.bs.length c4,.slice a5 m.fs.length c5,.slice a6 m.ds.length c6,.int .i64 m.nx,.slice ta ts.length tc,.slice ma ns.length mc,.slice ka cs.length kc,.slice pa pl pc]/\AtC W w.heap.size 94 #[.int .i64 kd,.string p,.string q,.int .i64 at_,.string tx]/\Wp W B b n a1 a2 a3 a4 a5 a6 ta ma ka pa c1 c2 c3 c4 c5 c6 tc mc kc pl pc m ts ns cs/\Below w.heap.size w W/\w.heap.size < W.heap.size):=fun W bb=>by
  rw [← hW0] at bb;have b0:Below w.heap.size w W:=((Below.refl _ w).alloc nR _).trans (bb.mono (by simp));have z:=bb.size;simp at z;exact ⟨hbx.over b0,(AtC.new w 94 _).over bb,hwp.below b0,b0,by omega⟩
 have HB0:Hid (Below W0.heap.size W0 W0):=Below.refl _ _;have hbw:b < w.heap.size:=hbx.lt;have hp6:p.size<=1048576:=by omega
 have hq6:q.size<=1048576:=by omega
 have ht6:tx.size<=1048576:=by omega
 have HSH:=hide hwp.sh;have HWW:Hid (w.heap.size < W0.heap.size):=by rw [← hW0];show _ < _;simp
 clear hbx hwp;go_enter Tryz.func39,Tryz.ntmps39
 go_upto_region 1 with fail
 clear hW0;have HXW:Hid (∀ W,Below W0.heap.size W0 W->(W.cell? ⟨b,0,none⟩=some (.slice a1 m.xs.length c1)/\W.cell? ⟨b,1,none⟩=some (.slice a2 m.ys.length c2)/\W.cell? ⟨b,2,none⟩=some (.slice a3 m.is.length c3)/\W.cell? ⟨b,3,none⟩=some (.slice a4 m.bs.length c4)/\W.cell? ⟨b,4,none⟩=some (.slice a5 m.fs.length c5)/\W.cell? ⟨b,5,none⟩=some (.slice a6 m.ds.length c6)/\W.cell? ⟨b,6,none⟩=some (.int .i64 m.nx))/\(W.cell? ⟨w.heap.size,0,none⟩=some (.int .i64 kd)/\W.cell? ⟨w.heap.size,1,none⟩=some (.string p)/\W.cell? ⟨w.heap.size,2,none⟩=some (.string q)/\W.cell? ⟨w.heap.size,3,none⟩=some (.int .i64 at_)/\W.cell? ⟨w.heap.size,4,none⟩=some (.string tx))/\MR W (.slice a1 m.xs.length c1) (.slice a2 m.ys.length c2) (.slice a3 m.is.length c3) (.slice a4 m.bs.length c4) (.slice a5 m.fs.length c5) (.slice a6 m.ds.length c6) m):=fun W bb=>by
  obtain ⟨k1,k2,k3,-⟩:=HC.out W bb;exact ⟨⟨k1.cell 0,k1.cell 1,k1.cell 2,k1.cell 3,k1.cell 4,k1.cell 5,k1.cell 6⟩,⟨k2.cell 0,k2.cell 1,k2.cell 2,k2.cell 3,k2.cell 4⟩,k3.mo.mr⟩
 go_cut [4,5,6] from 15 to 25 (fun c4 c5 c6 wx=>∃ (bm:Nat) (z1:Option Addr) (y1:Nat) (z2:Option Addr) (y2:Nat) (z3:Option Addr) (y3:Nat) (z4:Option Addr) (y4:Nat) (z5:Option Addr) (y5:Nat) (z6:Option Addr) (y6:Nat) (m':MD) (cc:Int) (r:Bool),c4=.pointer (some ⟨bm,0,none⟩)/\c5=.int .i64 cc/\c6=.bool r/\AtC wx bm 33 #[.slice z1 m'.xs.length y1,.slice z2 m'.ys.length y2,.slice z3 m'.is.length y3,.slice z4 m'.bs.length y4,.slice z5 m'.fs.length y5,.slice z6 m'.ds.length y6,.int .i64 m'.nx]/\(r=true->MO wx (fun k=>W0.heap.size<=k/\k≠bm) (.slice z1 m'.xs.length y1) (.slice z2 m'.ys.length y2) (.slice z3 m'.is.length y3) (.slice z4 m'.bs.length y4) (.slice z5 m'.fs.length y5) (.slice z6 m'.ds.length y6) m'/\Sh Z0 m')/\Below W0.heap.size W0 wx/\W0.heap.size<=bm)
 case first =>
  refine zdk (by kernel_rfl) [0,1,2,3,4,5,6,7,8,9,10,11,13,14] 12 [0,1,2,3,4,5,6,7,8,11] (fun i=>match i with|0=>.const [] (.pointer (some ⟨b,0,none⟩))|1=>.const [0] (.pointer (some ⟨b,0,none⟩))|2=>.const [1] (.pointer (some ⟨b,0,none⟩))|3=>.const [2] (.pointer (some ⟨b,0,none⟩))|4=>.const [3] (.agg #[.slice a1 m.xs.length c1,.slice a2 m.ys.length c2,.slice a3 m.is.length c3,.slice a4 m.bs.length c4,.slice a5 m.fs.length c5,.slice a6 m.ds.length c6,.int .i64 m.nx])|5=>.const [] (.agg #[.int .i64 kd,.string p,.string q,.int .i64 at_,.string tx])|6=>MkU3 [4,5] CallW CallW.below|7=>MkMv3 6|8=>MkFs 7|9=>MkSd 7|10=>MkTd 7|11=>MkW 33 #[.slice none 0 0,.slice none 0 0,.slice none 0 0,.slice none 0 0,.slice none 0 0,.slice none 0 0,.int .i64 0]|13=>MkId 9|14=>MkId 10|_=>.triv) (fun x=>⟨List.toArray ((.pointer (some ⟨b,0,none⟩))::(.agg #[.int .i64 kd,.string p,.string q,.int .i64 at_,.string tx])::(undef)::(.pointer (some ⟨w.heap.size,0,none⟩))::(x 11)::(x 13)::(x 14)::(undef)::(undef)::(undef)::(undef)::(undef)::(undef)::(undef)::(undef)::(x 7)::(x 0)::(x 1)::(x 2)::(x 3)::(x 4)::(x 5)::(x 6)::(x 8)::(x 9)::(x 10)::(undef)::(undef)::(undef)::(undef)::(undef)::(undef)::(undef)::(undef)::(undef)::(undef)::(undef)::(undef)::(undef)::(undef)::(undef)::(undef)::(undef)::(undef)::(undef)::(undef)::(undef)::(undef)::(undef)::(undef)::(undef)::(undef)::(undef)::(undef)::(undef)::(undef)::(undef)::(undef)::(undef)::(undef)::(undef)::(undef)::(undef)::(undef)::(undef)::(undef)::(undef)::(undef)::(undef)::(undef)::(undef)::(undef)::(undef)::(undef)::(undef)::(undef)::(undef)::(undef)::(undef)::(undef)::(undef)::(undef)::(undef)::(undef)::(undef)::(undef)::(undef)::(undef)::(undef)::(undef)::(undef)::(undef)::(undef)::(undef)::(undef)::(undef)::(undef)::(undef)::(undef)::(undef)::(undef)::(undef)::(undef)::(undef)::(undef)::(undef)::(undef)::(undef)::(undef)::(undef)::(undef)::(undef)::(undef)::(undef)::(undef)::(undef)::(undef)::(undef)::(undef)::(undef)::(undef)::(undef)::(undef)::(undef)::(undef)::(undef)::(undef)::(undef)::(undef)::(undef)::(undef)::(undef)::(undef)::(undef)::(undef)::(undef)::(undef)::(undef)::(undef)::(undef)::(undef)::(undef)::(undef)::[]),[]⟩) (fun i=>match i with|0=>undef|1=>undef|2=>undef|3=>undef|4=>undef|5=>undef|6=>undef|7=>undef|8=>undef|9=>undef|10=>undef|11=>undef|13=>undef|14=>undef|_=>undef) rfl (fun x iv W=>st7v W (iv 11).1 (x 8)) (zat (by kernel_rfl) (by kernel_rfl)) (by kernel_rfl) (by kernel_rfl) (by kernel_rfl) rfl (by decide) (by intro j hj;simp only [List.mem_cons,List.not_mem_nil,or_false] at hj;rcases hj with rfl|rfl|rfl|rfl|rfl|rfl|rfl|rfl|rfl|rfl|rfl|rfl|rfl|rfl<;>simp [Mk.const,MkU3,MkMv3,MkFs,MkSd,MkTd,MkW,MkId,Mk.val,Mk.val1]) ?_ ?_ ?_ ?_ ?_
  ·intro j v pp x iv W hj;have h8:(8:Nat)≠j:=fun e=>hj (by rw [← e];decide);have h11:(11:Nat)≠j:=fun e=>hj (by rw [← e];decide);show st7v W (upd iv j pp 11).1 (upd x j v 8)=st7v W (iv 11).1 (x 8);rw [zas _ _ _ _ h11,zas _ _ _ _ h8]
  ·intro jo hj so x iw W hd hp K hK;simp only [List.mem_cons,List.not_mem_nil,or_false] at hj;rcases hj with rfl|rfl|rfl|rfl|rfl|rfl|rfl|rfl|rfl|rfl|rfl|rfl|rfl|rfl<;>refine wpOp_step (o:=_) rfl fun K' hK'=>?_<;>have HK:=hide (fun (v:Value) (W':World) h1 h2=>hK' _ _ (hK v W' h1 h2))<;>simp only [upd,Nat.reduceEqDiff,if_true,if_false] at HK
   ·exact cQ9
   ·exact cQ48
   ·exact cQ62
   ·have e2:x 2=.pointer (some ⟨b,0,none⟩):=hp.post 2 (hd 2 mz0);simp only [e2] at HK ⊢;go_simp;exact HK.out _ _ bR rfl
   ·have e3:x 3=.pointer (some ⟨b,0,none⟩):=hp.post 3 (hd 3 mz0);have bw:=zac hp.bel;obtain ⟨⟨x0,x1,x2,x3,x4,x5,x6⟩,-,-⟩:=HXW.out W bw;clear bw;simp only [e3] at HK ⊢;go_simp;exact HK.out _ _ bR rfl
   ·have bw:=zac hp.bel;obtain ⟨-,⟨e0,e1,e2,e3,e4⟩,-⟩:=HXW.out W bw;clear bw;go_simp;exact HK.out _ _ bR rfl
   ·have e4:x 4=.agg #[.slice a1 m.xs.length c1,.slice a2 m.ys.length c2,.slice a3 m.is.length c3,.slice a4 m.bs.length c4,.slice a5 m.fs.length c5,.slice a6 m.ds.length c6,.int .i64 m.nx]:=hp.post 4 (hd 4 mz0);have e5:x 5=.agg #[.int .i64 kd,.string p,.string q,.int .i64 at_,.string tx]:=hp.post 5 (hd 5 mz1);have HMR:=hide (HXW.out W (zac hp.bel)).2.2;simp only [e4,e5] at HK ⊢;clear e4 e5;go_simp;refine (call_any _ _ _ _ _ _ m kd p q at_ tx W HMR.out HSH.out hp6 hq6 ht6).mono ?_;rintro e w1 ⟨⟨z1,y1,z2,y2,z3,y3,z4,y4,z5,y5,z6,y6,m',cc,r,rfl,hO⟩,B1⟩;go_simp;exact HK.out _ _ B1 ⟨_,_,_,rfl,z1,y1,z2,y2,z3,y3,z4,y4,z5,y5,z6,y6,m',cc,r,rfl,rfl,rfl,fun e=>⟨(hO e).1.bound,(hO e).2⟩⟩
   ·have e6:∃ a r q,x 6=.tuple #[a,r,q]/\CallW (iw 6).1 (iw 6).2 W a r q:=hp.post 6 (hd 6 mz0);obtain ⟨a,r,q2,e6,-⟩:=e6;have ea:=hide e6;simp only [e6] at HK ⊢;clear e6;go_simp;exact HK.out _ _ bR ⟨ea.out,a,r,q2,rfl⟩
   ·have e7:x 6=x 7/\∃ a r q,x 7=.tuple #[a,r,q]:=hp.post 7 (hd 7 mz0);obtain ⟨-,a,r,q2,e7⟩:=e7;have ea:Hid (a=fstOf (x 7)):=by rw [e7];rfl
    simp only [e7] at HK ⊢;clear e7;go_simp;exact HK.out _ _ bR ea.out
   ·have e7:x 6=x 7/\∃ a r q,x 7=.tuple #[a,r,q]:=hp.post 7 (hd 7 mz0);obtain ⟨-,a,r,q2,e7⟩:=e7;have ea:Hid (r=sndOf (x 7)):=by rw [e7];rfl
    simp only [e7] at HK ⊢;clear e7;go_simp;exact HK.out _ _ bR ea.out
   ·have e7:x 6=x 7/\∃ a r q,x 7=.tuple #[a,r,q]:=hp.post 7 (hd 7 mz0);obtain ⟨-,a,r,q2,e7⟩:=e7;have ea:Hid (q2=thdOf (x 7)):=by rw [e7];rfl
    simp only [e7] at HK ⊢;clear e7;go_simp;exact HK.out _ _ bR ea.out
   ·exact cQ70
   ·exact cQ9
   ·exact cQ9
  ·intro jo hj hjn so x iw W' hd hp W K hK;simp only [List.mem_cons,List.not_mem_nil,or_false] at hj;rcases hj with rfl|rfl|rfl|rfl|rfl|rfl|rfl|rfl|rfl|rfl|rfl|rfl|rfl|rfl
   ·exact absurd (by decide) hjn
   ·exact absurd (by decide) hjn
   ·exact absurd (by decide) hjn
   ·exact absurd (by decide) hjn
   ·exact absurd (by decide) hjn
   ·exact absurd (by decide) hjn
   ·exact absurd (by decide) hjn
   ·exact absurd (by decide) hjn
   ·exact absurd (by decide) hjn
   ·refine wpOp_step (o:=_) rfl fun K' hK'=>?_;have HK:Hid (∀ v,(MkSd 7).P W'.heap.size W'.heap.size W' v (upd x 9 v)->K' ⟨List.toArray ((Value.pointer (some { block:=b,off:=0 })) :: (Value.agg #[Value.int IntKind.i64 kd,Value.string p,Value.string q,Value.int IntKind.i64 at_,Value.string tx]) :: (undef) :: (Value.pointer (some { block:=w.heap.size,off:=0 })) :: (x 11) :: (x 13) :: (x 14) :: (undef) :: (undef) :: (undef) :: (undef) :: (undef) :: (undef) :: (undef) :: (undef) :: (x 7) :: (x 0) :: (x 1) :: (x 2) :: (x 3) :: (x 4) :: (x 5) :: (x 6) :: (x 8) :: (v) :: (x 10) :: (undef) :: (undef) :: (undef) :: (undef) :: (undef) :: (undef) :: (undef) :: (undef) :: (undef) :: (undef) :: (undef) :: (undef) :: (undef) :: (undef) :: (undef) :: (undef) :: (undef) :: (undef) :: (undef) :: (undef) :: (undef) :: (undef) :: (undef) :: (undef) :: (undef) :: (undef) :: (undef) :: (undef) :: (undef) :: (undef) :: (undef) :: (undef) :: (undef) :: (undef) :: (undef) :: (undef) :: (undef) :: (undef) :: (undef) :: (undef) :: (undef) :: (undef) :: (undef) :: (undef) :: (undef) :: (undef) :: (undef) :: (undef) :: (undef) :: (undef) :: (undef) :: (undef) :: (undef) :: (undef) :: (undef) :: (undef) :: (undef) :: (undef) :: (undef) :: (undef) :: (undef) :: (undef) :: (undef) :: (undef) :: (undef) :: (undef) :: (undef) :: (undef) :: (undef) :: (undef) :: (undef) :: (undef) :: (undef) :: (undef) :: (undef) :: (undef) :: (undef) :: (undef) :: (undef) :: (undef) :: (undef) :: (undef) :: (undef) :: (undef) :: (undef) :: (undef) :: (undef) :: (undef) :: (undef) :: (undef) :: (undef) :: (undef) :: (undef) :: (undef) :: (undef) :: (undef) :: (undef) :: (undef) :: (undef) :: (undef) :: (undef) :: (undef) :: (undef) :: (undef) :: (undef) :: (undef) :: (undef) :: (undef) :: (undef) :: (undef) :: (undef) :: (undef) :: (undef) :: (undef) :: (undef) :: (undef) :: (undef) :: []),[]⟩ W):=fun v h2=>hK' _ _ (hK v h2);have e7:x 6=x 7/\∃ a r q,x 7=.tuple #[a,r,q]:=hp.post 7 (hd 7 mz0);obtain ⟨-,a,r,q2,e7⟩:=e7;have ea:Hid (r=sndOf (x 7)):=by rw [e7];rfl
    simp only [e7] at HK ⊢;clear e7;go_simp;exact HK.out _ ea.out
   ·refine wpOp_step (o:=_) rfl fun K' hK'=>?_;have HK:Hid (∀ v,(MkTd 7).P W'.heap.size W'.heap.size W' v (upd x 10 v)->K' ⟨List.toArray ((Value.pointer (some { block:=b,off:=0 })) :: (Value.agg #[Value.int IntKind.i64 kd,Value.string p,Value.string q,Value.int IntKind.i64 at_,Value.string tx]) :: (undef) :: (Value.pointer (some { block:=w.heap.size,off:=0 })) :: (x 11) :: (x 13) :: (x 14) :: (undef) :: (undef) :: (undef) :: (undef) :: (undef) :: (undef) :: (undef) :: (undef) :: (x 7) :: (x 0) :: (x 1) :: (x 2) :: (x 3) :: (x 4) :: (x 5) :: (x 6) :: (x 8) :: (x 9) :: (v) :: (undef) :: (undef) :: (undef) :: (undef) :: (undef) :: (undef) :: (undef) :: (undef) :: (undef) :: (undef) :: (undef) :: (undef) :: (undef) :: (undef) :: (undef) :: (undef) :: (undef) :: (undef) :: (undef) :: (undef) :: (undef) :: (undef) :: (undef) :: (undef) :: (undef) :: (undef) :: (undef) :: (undef) :: (undef) :: (undef) :: (undef) :: (undef) :: (undef) :: (undef) :: (undef) :: (undef) :: (undef) :: (undef) :: (undef) :: (undef) :: (undef) :: (undef) :: (undef) :: (undef) :: (undef) :: (undef) :: (undef) :: (undef) :: (undef) :: (undef) :: (undef) :: (undef) :: (undef) :: (undef) :: (undef) :: (undef) :: (undef) :: (undef) :: (undef) :: (undef) :: (undef) :: (undef) :: (undef) :: (undef) :: (undef) :: (undef) :: (undef) :: (undef) :: (undef) :: (undef) :: (undef) :: (undef) :: (undef) :: (undef) :: (undef) :: (undef) :: (undef) :: (undef) :: (undef) :: (undef) :: (undef) :: (undef) :: (undef) :: (undef) :: (undef) :: (undef) :: (undef) :: (undef) :: (undef) :: (undef) :: (undef) :: (undef) :: (undef) :: (undef) :: (undef) :: (undef) :: (undef) :: (undef) :: (undef) :: (undef) :: (undef) :: (undef) :: (undef) :: (undef) :: (undef) :: (undef) :: (undef) :: (undef) :: (undef) :: (undef) :: (undef) :: (undef) :: (undef) :: (undef) :: (undef) :: (undef) :: (undef) :: []),[]⟩ W):=fun v h2=>hK' _ _ (hK v h2);have e7:x 6=x 7/\∃ a r q,x 7=.tuple #[a,r,q]:=hp.post 7 (hd 7 mz0);obtain ⟨-,a,r,q2,e7⟩:=e7;have ea:Hid (q2=thdOf (x 7)):=by rw [e7];rfl
    simp only [e7] at HK ⊢;clear e7;go_simp;exact HK.out _ ea.out
   ·exact absurd (by decide) hjn
   ·refine wpOp_step (o:=_) rfl fun K' hK'=>?_;have HK:Hid (∀ v,(MkId 9).P W'.heap.size W'.heap.size W' v (upd x 13 v)->K' ⟨List.toArray ((Value.pointer (some { block:=b,off:=0 })) :: (Value.agg #[Value.int IntKind.i64 kd,Value.string p,Value.string q,Value.int IntKind.i64 at_,Value.string tx]) :: (undef) :: (Value.pointer (some { block:=w.heap.size,off:=0 })) :: (x 11) :: (v) :: (x 14) :: (undef) :: (undef) :: (undef) :: (undef) :: (undef) :: (undef) :: (undef) :: (undef) :: (x 7) :: (x 0) :: (x 1) :: (x 2) :: (x 3) :: (x 4) :: (x 5) :: (x 6) :: (x 8) :: (x 9) :: (x 10) :: (undef) :: (undef) :: (undef) :: (undef) :: (undef) :: (undef) :: (undef) :: (undef) :: (undef) :: (undef) :: (undef) :: (undef) :: (undef) :: (undef) :: (undef) :: (undef) :: (undef) :: (undef) :: (undef) :: (undef) :: (undef) :: (undef) :: (undef) :: (undef) :: (undef) :: (undef) :: (undef) :: (undef) :: (undef) :: (undef) :: (undef) :: (undef) :: (undef) :: (undef) :: (undef) :: (undef) :: (undef) :: (undef) :: (undef) :: (undef) :: (undef) :: (undef) :: (undef) :: (undef) :: (undef) :: (undef) :: (undef) :: (undef) :: (undef) :: (undef) :: (undef) :: (undef) :: (undef) :: (undef) :: (undef) :: (undef) :: (undef) :: (undef) :: (undef) :: (undef) :: (undef) :: (undef) :: (undef) :: (undef) :: (undef) :: (undef) :: (undef) :: (undef) :: (undef) :: (undef) :: (undef) :: (undef) :: (undef) :: (undef) :: (undef) :: (undef) :: (undef) :: (undef) :: (undef) :: (undef) :: (undef) :: (undef) :: (undef) :: (undef) :: (undef) :: (undef) :: (undef) :: (undef) :: (undef) :: (undef) :: (undef) :: (undef) :: (undef) :: (undef) :: (undef) :: (undef) :: (undef) :: (undef) :: (undef) :: (undef) :: (undef) :: (undef) :: (undef) :: (undef) :: (undef) :: (undef) :: (undef) :: (undef) :: (undef) :: (undef) :: (undef) :: (undef) :: (undef) :: (undef) :: (undef) :: (undef) :: (undef) :: []),[]⟩ W):=fun v h2=>hK' _ _ (hK v h2);go_simp;exact HK.out _ rfl
   ·refine wpOp_step (o:=_) rfl fun K' hK'=>?_;have HK:Hid (∀ v,(MkId 10).P W'.heap.size W'.heap.size W' v (upd x 14 v)->K' ⟨List.toArray ((Value.pointer (some { block:=b,off:=0 })) :: (Value.agg #[Value.int IntKind.i64 kd,Value.string p,Value.string q,Value.int IntKind.i64 at_,Value.string tx]) :: (undef) :: (Value.pointer (some { block:=w.heap.size,off:=0 })) :: (x 11) :: (x 13) :: (v) :: (undef) :: (undef) :: (undef) :: (undef) :: (undef) :: (undef) :: (undef) :: (undef) :: (x 7) :: (x 0) :: (x 1) :: (x 2) :: (x 3) :: (x 4) :: (x 5) :: (x 6) :: (x 8) :: (x 9) :: (x 10) :: (undef) :: (undef) :: (undef) :: (undef) :: (undef) :: (undef) :: (undef) :: (undef) :: (undef) :: (undef) :: (undef) :: (undef) :: (undef) :: (undef) :: (undef) :: (undef) :: (undef) :: (undef) :: (undef) :: (undef) :: (undef) :: (undef) :: (undef) :: (undef) :: (undef) :: (undef) :: (undef) :: (undef) :: (undef) :: (undef) :: (undef) :: (undef) :: (undef) :: (undef) :: (undef) :: (undef) :: (undef) :: (undef) :: (undef) :: (undef) :: (undef) :: (undef) :: (undef) :: (undef) :: (undef) :: (undef) :: (undef) :: (undef) :: (undef) :: (undef) :: (undef) :: (undef) :: (undef) :: (undef) :: (undef) :: (undef) :: (undef) :: (undef) :: (undef) :: (undef) :: (undef) :: (undef) :: (undef) :: (undef) :: (undef) :: (undef) :: (undef) :: (undef) :: (undef) :: (undef) :: (undef) :: (undef) :: (undef) :: (undef) :: (undef) :: (undef) :: (undef) :: (undef) :: (undef) :: (undef) :: (undef) :: (undef) :: (undef) :: (undef) :: (undef) :: (undef) :: (undef) :: (undef) :: (undef) :: (undef) :: (undef) :: (undef) :: (undef) :: (undef) :: (undef) :: (undef) :: (undef) :: (undef) :: (undef) :: (undef) :: (undef) :: (undef) :: (undef) :: (undef) :: (undef) :: (undef) :: (undef) :: (undef) :: (undef) :: (undef) :: (undef) :: (undef) :: (undef) :: (undef) :: (undef) :: (undef) :: (undef) :: []),[]⟩ W):=fun v h2=>hK' _ _ (hK v h2);go_simp;exact HK.out _ rfl
  ·intro so x iw W hne hp K hK;obtain ⟨a,r,q2,e6,z1,y1,z2,y2,z3,y3,z4,y4,z5,y5,z6,y6,m',cc,rr,ha,-,-,-⟩:=hp.post 6 (hne 6 (by decide));obtain ⟨e7,-⟩:=hp.post 7 (hne 7 (by decide));have e8:x 8=fstOf (x 7):=hp.post 8 (hne 8 (by decide));obtain ⟨e11,z11,A11⟩:=hp.post 11 (hne 11 (by decide));rw [← e7,e6] at e8
   replace e8:x 8=a:=e8
   rw [ha] at e8;have HKS:Hid (K ⟨List.toArray ((Value.pointer (some { block:=b,off:=0 })) :: (Value.agg #[Value.int IntKind.i64 kd,Value.string p,Value.string q,Value.int IntKind.i64 at_,Value.string tx]) :: (undef) :: (Value.pointer (some { block:=w.heap.size,off:=0 })) :: (x 11) :: (x 13) :: (x 14) :: (undef) :: (undef) :: (undef) :: (undef) :: (undef) :: (undef) :: (undef) :: (undef) :: (x 7) :: (x 0) :: (x 1) :: (x 2) :: (x 3) :: (x 4) :: (x 5) :: (x 6) :: (x 8) :: (x 9) :: (x 10) :: (undef) :: (undef) :: (undef) :: (undef) :: (undef) :: (undef) :: (undef) :: (undef) :: (undef) :: (undef) :: (undef) :: (undef) :: (undef) :: (undef) :: (undef) :: (undef) :: (undef) :: (undef) :: (undef) :: (undef) :: (undef) :: (undef) :: (undef) :: (undef) :: (undef) :: (undef) :: (undef) :: (undef) :: (undef) :: (undef) :: (undef) :: (undef) :: (undef) :: (undef) :: (undef) :: (undef) :: (undef) :: (undef) :: (undef) :: (undef) :: (undef) :: (undef) :: (undef) :: (undef) :: (undef) :: (undef) :: (undef) :: (undef) :: (undef) :: (undef) :: (undef) :: (undef) :: (undef) :: (undef) :: (undef) :: (undef) :: (undef) :: (undef) :: (undef) :: (undef) :: (undef) :: (undef) :: (undef) :: (undef) :: (undef) :: (undef) :: (undef) :: (undef) :: (undef) :: (undef) :: (undef) :: (undef) :: (undef) :: (undef) :: (undef) :: (undef) :: (undef) :: (undef) :: (undef) :: (undef) :: (undef) :: (undef) :: (undef) :: (undef) :: (undef) :: (undef) :: (undef) :: (undef) :: (undef) :: (undef) :: (undef) :: (undef) :: (undef) :: (undef) :: (undef) :: (undef) :: (undef) :: (undef) :: (undef) :: (undef) :: (undef) :: (undef) :: (undef) :: (undef) :: (undef) :: (undef) :: (undef) :: (undef) :: (undef) :: (undef) :: (undef) :: (undef) :: (undef) :: (undef) :: (undef) :: (undef) :: (undef) :: []),[]⟩ (st7v W (iw 11).1 (.agg #[.slice z1 m'.xs.length y1,.slice z2 m'.ys.length y2,.slice z3 m'.is.length y3,.slice z4 m'.bs.length y4,.slice z5 m'.fs.length y5,.slice z6 m'.ds.length y6,.int .i64 m'.nx]))):=by rw [← e8];exact hK
   have y20:=A11.c0;have f0:=A11.frozen 0;have y21:=A11.c1;have f1:=A11.frozen 1;have y22:=A11.c2;have f2:=A11.frozen 2;have y23:=A11.c3;have f3:=A11.frozen 3;have y24:=A11.c4;have f4:=A11.frozen 4;have y25:=A11.c5;have f5:=A11.frozen 5;have y26:=A11.c6;have f6:=A11.frozen 6;refine wpOp_step (o:=_) rfl fun K' hK'=>?_;have HK2:=hide (hK' _ _ HKS.out);simp only [e8,e11] at HK2 ⊢;clear hK hK' hp hne e6 e7 e8 e11 z11 A11 HKS ha;go_simp;exact HK2.out
  ·intro x iw W hp;obtain ⟨a,r,q2,e6,z1,y1,z2,y2,z3,y3,z4,y4,z5,y5,z6,y6,m',cc,rr,ha,hr,hq2,hO⟩:=hp.post 6 (by decide);obtain ⟨e7,-⟩:=hp.post 7 (by decide);have e8:x 8=fstOf (x 7):=hp.post 8 (by decide);have e9:x 9=sndOf (x 7):=hp.post 9 (by decide);have e10:x 10=thdOf (x 7):=hp.post 10 (by decide);obtain ⟨e11,z11,A11⟩:=hp.post 11 (by decide);have e13:x 13=x 9:=hp.post 13 (by decide);have e14:x 14=x 10:=hp.post 14 (by decide);have l11:=hp.lo 11 (by decide);have l6:=hp.lo 6 (by decide);have bel:=zac hp.bel;have ap:=hp.apart 6 (by decide) 11 (by decide) (by decide);rw [← e7,e6] at e8 e9 e10;rw [e6] at e7
   replace e7:=e7.symm
   replace e8:x 8=a:=e8
   replace e9:x 9=r:=e9
   replace e10:x 10=q2:=e10
   rw [e9] at e13;rw [e10] at e14;subst ha hr hq2;have h6:W0.heap.size<=(iw 6).1:=l6.1;have h11:W0.heap.size<=(iw 11).1:=l11.1;have HFI:Hid (AtC (st7v W (iw 11).1 (.agg #[.slice z1 m'.xs.length y1,.slice z2 m'.ys.length y2,.slice z3 m'.is.length y3,.slice z4 m'.bs.length y4,.slice z5 m'.fs.length y5,.slice z6 m'.ds.length y6,.int .i64 m'.nx])) (iw 11).1 33 #[.slice z1 m'.xs.length y1,.slice z2 m'.ys.length y2,.slice z3 m'.is.length y3,.slice z4 m'.bs.length y4,.slice z5 m'.fs.length y5,.slice z6 m'.ds.length y6,.int .i64 m'.nx]/\(rr=true->MO (st7v W (iw 11).1 (.agg #[.slice z1 m'.xs.length y1,.slice z2 m'.ys.length y2,.slice z3 m'.is.length y3,.slice z4 m'.bs.length y4,.slice z5 m'.fs.length y5,.slice z6 m'.ds.length y6,.int .i64 m'.nx])) (fun k=>W0.heap.size<=k/\k≠(iw 11).1) (.slice z1 m'.xs.length y1) (.slice z2 m'.ys.length y2) (.slice z3 m'.is.length y3) (.slice z4 m'.bs.length y4) (.slice z5 m'.fs.length y5) (.slice z6 m'.ds.length y6) m'/\Sh Z0 m')/\Below W0.heap.size W0 (st7v W (iw 11).1 (.agg #[.slice z1 m'.xs.length y1,.slice z2 m'.ys.length y2,.slice z3 m'.is.length y3,.slice z4 m'.bs.length y4,.slice z5 m'.fs.length y5,.slice z6 m'.ds.length y6,.int .i64 m'.nx]))/\W0.heap.size<=(iw 11).1) :=
    ⟨zd6 A11 _ _ _ _ _ _ _,fun e=>⟨((hO e).1.of_heap fun k hk _=>zaa _ _ _ _ _ _ _ _ _ k (by have:(iw 6).1<=k/\k < (iw 6).2:=hk;omega)).mono (fun k hk=>by have:(iw 6).1<=k/\k < (iw 6).2:=hk;omega),(hO e).2⟩,zab bel h11 _ _ _ _ _ _ _,h11⟩
   clear hp A11 bel ap l11 l6 z11 h6 h11 hO;simp only [e8,e9,e10,e11,e13,e14,e7,e6] at *;try go_wp2_with fail
   go_meet
   exact ⟨_,_,_,_,_,_,_,_,_,_,_,_,_,m',cc,rr,rfl,rfl,rfl,HFI.out.1,HFI.out.2.1,HFI.out.2.2.1,HFI.out.2.2.2⟩
 case rest =>
  obtain ⟨bm,z1,y1,z2,y2,z3,y3,z4,y4,z5,y5,z6,y6,m',cc,r,rfl,rfl,rfl,Am,hO,Bm,lm⟩:=hcut;obtain ⟨w1,hw1⟩:∃ w1,w1=wc:=⟨_,rfl⟩
  subst hw1;have HW1:Hid (AtC w1 b 89 #[.slice a1 m.xs.length c1,.slice a2 m.ys.length c2,.slice a3 m.is.length c3,.slice a4 m.bs.length c4,.slice a5 m.fs.length c5,.slice a6 m.ds.length c6,.int .i64 m.nx,.slice ta ts.length tc,.slice ma ns.length mc,.slice ka cs.length kc,.slice pa pl pc]/\AtC w1 w.heap.size 94 #[.int .i64 kd,.string p,.string q,.int .i64 at_,.string tx]/\Wp w1 B b n a1 a2 a3 a4 a5 a6 ta ma ka pa c1 c2 c3 c4 c5 c6 tc mc kc pl pc m ts ns cs/\w.grownBy w1 (some b)/\w.heap.size < w1.heap.size/\AtC w1 bm 33 #[.slice z1 m'.xs.length y1,.slice z2 m'.ys.length y2,.slice z3 m'.is.length y3,.slice z4 m'.bs.length y4,.slice z5 m'.fs.length y5,.slice z6 m'.ds.length y6,.int .i64 m'.nx]/\w.heap.size < bm):=by
   obtain ⟨k1,k2,k3,k4,k5⟩:=HC.out w1 Bm;exact ⟨k1,k2,k3,zam k4 _,k5,Am,by have:=HWW.out;omega⟩
  have HO:=hide hO;clear Am hO Bm lm HXW HC HB0;go_upto_if 26 with fail
  go_cut [4] from 26 to 47 (fun _ wx=>WBc w wx B b n #[.int .i64 kd,.string p,.string q,.int .i64 at_,.string tx])
  case first =>
   cases r with
   | false =>
    go_wp2_with fail
    go_meet
    exact ⟨a1,a2,a3,a4,a5,a6,ta,ma,ka,pa,c1,c2,c3,c4,c5,c6,tc,mc,kc,pl,pc,m,ts,ns,cs,HW1.out.1,HW1.out.2.2.1.more (by omega),HW1.out.2.2.1.cl,HW1.out.2.1,HW1.out.2.2.2.1⟩
   | true =>
    have x7:=HW1.out.1.c7;obtain ⟨x0,x1,x2,x3,x4,x5,x6⟩:=AtC.sev HW1.out.1;have f0:=HW1.out.1.frozen 0;have f1:=HW1.out.1.frozen 1;have f2:=HW1.out.1.frozen 2;have f3:=HW1.out.1.frozen 3;have f4:=HW1.out.1.frozen 4;have f5:=HW1.out.1.frozen 5;have f6:=HW1.out.1.frozen 6;have f7:=HW1.out.1.frozen 7;obtain ⟨t0,t1,t2,t3,t4,t5,t6⟩:=AtC.sev HW1.out.2.2.2.2.2.1;have HS8:Hid (WBd ((((((((w1.setCell ⟨b,0,none⟩ (.slice z1 m'.xs.length y1)).setCell ⟨b,1,none⟩ (.slice z2 m'.ys.length y2)).setCell ⟨b,2,none⟩ (.slice z3 m'.is.length y3)).setCell ⟨b,3,none⟩ (.slice z4 m'.bs.length y4)).setCell ⟨b,4,none⟩ (.slice z5 m'.fs.length y5)).setCell ⟨b,5,none⟩ (.slice z6 m'.ds.length y6)).setCell ⟨b,6,none⟩ (.int .i64 m'.nx)).setCell ⟨b,7,none⟩ (.slice ta ts.length tc)) w B b n z1 z2 z3 z4 z5 z6 ta ma ka pa y1 y2 y3 y4 y5 y6 tc mc kc pl pc m' ts ns cs #[.int .i64 kd,.string p,.string q,.int .i64 at_,.string tx]):=by
     obtain ⟨k1,k2,k3,k4,k5,k6,k7⟩:=HW1.out;have hg:=(zan (zan (zan (zan (zan (zan (zan (zan (zbd w1 (some b))))))))):w1.grownBy ((((((((w1.setCell ⟨b,0,none⟩ (.slice z1 m'.xs.length y1)).setCell ⟨b,1,none⟩ (.slice z2 m'.ys.length y2)).setCell ⟨b,2,none⟩ (.slice z3 m'.is.length y3)).setCell ⟨b,3,none⟩ (.slice z4 m'.bs.length y4)).setCell ⟨b,4,none⟩ (.slice z5 m'.fs.length y5)).setCell ⟨b,5,none⟩ (.slice z6 m'.ds.length y6)).setCell ⟨b,6,none⟩ (.int .i64 m'.nx)).setCell ⟨b,7,none⟩ (.slice ta ts.length tc)) (some b))
     have hO:=HO.out rfl;have hne:w.heap.size≠b:=by omega
     refine ⟨((((((((k1.set 0 _).set 1 _).set 2 _).set 3 _).set 4 _).set 5 _).set 6 _).set 7 _),?_,k2.grown hg (by simp;omega),zad k4 hg⟩;have h0:=k3.grown hg;exact ⟨(hO.1.bound.of_heap (fun k hk _=>hg.block k hk.2 (by have:W0.heap.size<=k/\k≠bm:=hk.1;have:=HWW.out;simp;omega))).mono (fun k hk=>by have:W0.heap.size<=k/\k≠bm:=hk.1;have:=HWW.out;exact ⟨by omega,by omega⟩),hO.2,h0.dv,h0.dn,h0.dk,h0.nd,h0.nn,h0.nl,h0.nb,h0.co,h0.cn,h0.cl⟩
    go_upto_region 3 with fail
    go_cut [5] from 26 to 36 (fun c5 wx=>c5=.int .i64 cc/\WBd wx w B b n z1 z2 z3 z4 z5 z6 ta ma ka pa y1 y2 y3 y4 y5 y6 tc mc kc pl pc m' ts ns cs #[.int .i64 kd,.string p,.string q,.int .i64 at_,.string tx])
    case first =>
     go_big_region
     all_goals (go_wp2_with fail;go_meet;exact ⟨rfl,HS8.out.below bR.drew⟩)
    case rest =>
     obtain ⟨rfl,hw2⟩:=hcut;obtain ⟨w2,e2⟩:∃ w2,w2=wc:=⟨_,rfl⟩
     subst e2;have HW2:=hide hw2;clear hw2 HS8 x0 x1 x2 x3 x4 x5 x6 x7 f0 f1 f2 f3 f4 f5 f6 f7 t0 t1 t2 t3 t4 t5 t6;by_cases hcc:cc=0
     rotate_left
     ·have hcb:(cc == 0)=false:=beq_eq_false_iff_ne.mpr hcc;go_wp2_with fail
      go_meet
      exact HW2.out.wbc
     subst hcc;have HMW:Hid (∀ W,Below w2.heap.size w2 W->WBd W w B b n z1 z2 z3 z4 z5 z6 ta ma ka pa y1 y2 y3 y4 y5 y6 tc mc kc pl pc m' ts ns cs #[.int .i64 kd,.string p,.string q,.int .i64 at_,.string tx]):=fun W bb=>HW2.out.below bb;have HLL:Hid (ns.length<=900/\NdB (8 * (n+1)) ns/\p.size<=8 * (n+1)/\q.size<=8 * (n+1)/\8 * (n+1)<=1048576):=⟨by have:=HW2.out.wp.nl;omega,HW2.out.wp.nb.mono (by omega),by omega,by omega,by omega⟩
     have HMD:Hid (∀ (w3:World) (ma3:Option Addr) (mc3:Nat) (n3:List Nd),NdO w3 w2.heap.size (.slice ma3 n3.length mc3) n3->n3.length<=ns.length+1->NdB (8 * (n+1)) n3->Below w2.heap.size w2 w3->WBc w (w3.setCell ⟨b,8,none⟩ (.slice ma3 n3.length mc3)) B b n #[.int .i64 kd,.string p,.string q,.int .i64 at_,.string tx]):=fun w3 ma3 mc3 n3 O3 hl3 hb3 B3=>by
      have k:=HW2.out.below B3;have hg:w3.grownBy (w3.setCell ⟨b,8,none⟩ (.slice ma3 n3.length mc3)) (some b):=zan (zbd _ _);have hb2:b < w2.heap.size:=HW2.out.bx.lt;have hz:=HW2.out.gr.size;refine ⟨z1,z2,z3,z4,z5,z6,ta,ma3,ka,pa,y1,y2,y3,y4,y5,y6,tc,mc3,kc,pl,pc,m',ts,n3,cs,k.bx.set 8 _,?_,k.wp.cl,k.ev.grown hg (by simp;omega),zad k.gr hg⟩;have h0:=(k.wp.more (show n<=n+1 by omega)).grown hg;exact ⟨h0.mo,h0.sh,h0.dv,h0.dn,h0.dk,(O3.of_heap fun k hk=>hg.block k (O3.lt k hk).2 (by have:=(O3.lt k hk).1;simp;omega)).mono (by omega),fun k hk=>by have:=(O3.lt k hk).1;omega,by have:=HW2.out.wp.nl;omega,hb3,h0.co,h0.cn,h0.cl⟩
     have HXX:Hid (∀ W,Below w2.heap.size w2 W->W.cell? ⟨b,8,none⟩=some (.slice ma ns.length mc)/\W.frozen? ⟨b,8,none⟩=false/\W.cell? ⟨w.heap.size,0,none⟩=some (.int .i64 kd)/\W.cell? ⟨w.heap.size,1,none⟩=some (.string p)/\W.cell? ⟨w.heap.size,2,none⟩=some (.string q)/\W.cell? ⟨w.heap.size,3,none⟩=some (.int .i64 at_)/\W.cell? ⟨w.heap.size,4,none⟩=some (.string tx)):=fun W bb=>by
      have k:=HMW.out W bb;exact ⟨k.bx.cell 8,k.bx.frozen 8,k.ev.cell 0,k.ev.cell 1,k.ev.cell 2,k.ev.cell 3,k.ev.cell 4⟩
     obtain ⟨x8,g8,e0,e1,e2,e3,e4⟩:=HXX.out w2 bR;go_upto_region 5 with fail
     go_region_with (go_at_call 47;refine (zjr (8 * (n+1)) B _ ns kd p q at_ tx _ (HMW.out _ (zac bR)).wp.nd HLL.out.1 HLL.out.2.1 HLL.out.2.2.1 HLL.out.2.2.2.1 HLL.out.2.2.2.2).mono ?_;rintro e w3 ⟨⟨v3,n3,rfl,O3,hl3,hb3⟩,B3⟩;obtain ⟨ma3,mc3,rfl⟩:=O3.form;have HO3:=hide (And.intro O3 (And.intro hl3 (And.intro hb3 (zac B3))));obtain ⟨y8,j8,-⟩:=HXX.out w3 (zac B3);clear O3 hl3 hb3 B3)
     all_goals (go_wp2_with fail;go_meet;exact HMD.out w3 ma3 mc3 n3 HO3.out.1 HO3.out.2.1 HO3.out.2.2.1 HO3.out.2.2.2)
  case rest =>
   clear HW1 HO;obtain ⟨a1,a2,a3,a4,a5,a6,ta,ma,ka,pa,c1,c2,c3,c4,c5,c6,tc,mc,kc,pl,pc,m,ts,ns,cs,hbx2,hwp2,hcl2,hev2,hgr2⟩:=hcut;obtain ⟨w3,e3⟩:∃ w3,w3=wc:=⟨_,rfl⟩
   subst e3;have HW3:Hid (AtC w3 b 89 #[.slice a1 m.xs.length c1,.slice a2 m.ys.length c2,.slice a3 m.is.length c3,.slice a4 m.bs.length c4,.slice a5 m.fs.length c5,.slice a6 m.ds.length c6,.int .i64 m.nx,.slice ta ts.length tc,.slice ma ns.length mc,.slice ka cs.length kc,.slice pa pl pc]/\Wp w3 B b (n+1) a1 a2 a3 a4 a5 a6 ta ma ka pa c1 c2 c3 c4 c5 c6 tc mc kc pl pc m ts ns cs/\cs.length<=n/\AtC w3 w.heap.size 94 #[.int .i64 kd,.string p,.string q,.int .i64 at_,.string tx]/\w.grownBy w3 (some b)):=⟨hbx2,hwp2,hcl2,hev2,hgr2⟩
   have hb3:b < w3.heap.size:=hbx2.lt;have hw3:w.heap.size < w3.heap.size:=hev2.lt;have e0:=hev2.c0;clear hbx2 hwp2 hcl2 hev2 hgr2;have HFS:Hid (∀ (w4 W5:World) (L:Nat) (n1:Option Addr) (o1:Nat) (n2:Option Addr) (o2:Nat) (n3:Option Addr) (o3:Nat) (n4:Option Addr) (o4:Nat) (n5:Option Addr) (o5:Nat) (n6:Option Addr) (o6:Nat) (n7:Option Addr) (o7:Nat) (mf:MD) (tf:List ByteArray),MO w4 (fun k=>w3.heap.size<=k/\k≠L) (.slice n1 mf.xs.length o1) (.slice n2 mf.ys.length o2) (.slice n3 mf.is.length o3) (.slice n4 mf.bs.length o4) (.slice n5 mf.fs.length o5) (.slice n6 mf.ds.length o6) mf->ROwns w4 w3.heap.size 9 (.slice n7 tf.length o7) (stc tf)->Sh Z0 mf->DvOk tf->Below w3.heap.size w3 w4->W5=((((((((w4.setCell ⟨b,0,none⟩ (.slice n1 mf.xs.length o1)).setCell ⟨b,1,none⟩ (.slice n2 mf.ys.length o2)).setCell ⟨b,2,none⟩ (.slice n3 mf.is.length o3)).setCell ⟨b,3,none⟩ (.slice n4 mf.bs.length o4)).setCell ⟨b,4,none⟩ (.slice n5 mf.fs.length o5)).setCell ⟨b,5,none⟩ (.slice n6 mf.ds.length o6)).setCell ⟨b,6,none⟩ (.int .i64 mf.nx)).setCell ⟨b,7,none⟩ (.slice n7 tf.length o7))->AtC W5 b 89 #[.slice n1 mf.xs.length o1,.slice n2 mf.ys.length o2,.slice n3 mf.is.length o3,.slice n4 mf.bs.length o4,.slice n5 mf.fs.length o5,.slice n6 mf.ds.length o6,.int .i64 mf.nx,.slice n7 tf.length o7,.slice ma ns.length mc,.slice ka cs.length kc,.slice pa pl pc]/\Wp W5 B b (n+1) n1 n2 n3 n4 n5 n6 n7 ma ka pa o1 o2 o3 o4 o5 o6 o7 mc kc pl pc mf tf ns cs/\cs.length<=n/\AtC W5 w.heap.size 94 #[.int .i64 kd,.string p,.string q,.int .i64 at_,.string tx]/\w.grownBy W5 (some b)):=by
    rintro w4 W5 L n1 o1 n2 o2 n3 o3 n4 o4 n5 o5 n6 o6 n7 o7 mf tf hM hT hS hD hB rfl;obtain ⟨k1,k2,k3,k4,k5⟩:=HW3.out;have hg:=(zan (zan (zan (zan (zan (zan (zan (zan (zbd w4 (some b))))))))):w4.grownBy ((((((((w4.setCell ⟨b,0,none⟩ (.slice n1 mf.xs.length o1)).setCell ⟨b,1,none⟩ (.slice n2 mf.ys.length o2)).setCell ⟨b,2,none⟩ (.slice n3 mf.is.length o3)).setCell ⟨b,3,none⟩ (.slice n4 mf.bs.length o4)).setCell ⟨b,4,none⟩ (.slice n5 mf.fs.length o5)).setCell ⟨b,5,none⟩ (.slice n6 mf.ds.length o6)).setCell ⟨b,6,none⟩ (.int .i64 mf.nx)).setCell ⟨b,7,none⟩ (.slice n7 tf.length o7)) (some b))
    have hz:=k5.size;have h0:=(k2.below hB).grown hg;refine ⟨(((((((((k1.over hB).set 0 _).set 1 _).set 2 _).set 3 _).set 4 _).set 5 _).set 6 _).set 7 _),⟨(hM.bound.of_heap (fun k hk _=>hg.block k hk.2 (by have:w3.heap.size<=k/\k≠L:=hk.1;simp;omega))).mono (fun k hk=>by have:w3.heap.size<=k/\k≠L:=hk.1;exact ⟨by omega,by omega⟩),hS,(hT.of_heap (fun k hk=>hg.block k (hT.lt k hk).2 (by have:=(hT.lt k hk).1;simp;omega))).base_le (by omega),fun k hk=>by have:=(hT.lt k hk).1;omega,hD,h0.nd,h0.nn,h0.nl,h0.nb,h0.co,h0.cn,h0.cl⟩,k3,(k4.over hB).grown hg (by simp;omega),zad (zad k5 (zam hB _)) hg⟩
   by_cases h6:kd=6
   ·subst h6;have HX3:Hid (∀ W,Below w3.heap.size w3 W->(W.cell? ⟨b,0,none⟩=some (.slice a1 m.xs.length c1)/\W.cell? ⟨b,1,none⟩=some (.slice a2 m.ys.length c2)/\W.cell? ⟨b,2,none⟩=some (.slice a3 m.is.length c3)/\W.cell? ⟨b,3,none⟩=some (.slice a4 m.bs.length c4)/\W.cell? ⟨b,4,none⟩=some (.slice a5 m.fs.length c5)/\W.cell? ⟨b,5,none⟩=some (.slice a6 m.ds.length c6)/\W.cell? ⟨b,6,none⟩=some (.int .i64 m.nx)/\W.cell? ⟨b,7,none⟩=some (.slice ta ts.length tc))/\(W.cell? ⟨w.heap.size,0,none⟩=some (.int .i64 6)/\W.cell? ⟨w.heap.size,1,none⟩=some (.string p)/\W.cell? ⟨w.heap.size,2,none⟩=some (.string q)/\W.cell? ⟨w.heap.size,3,none⟩=some (.int .i64 at_)/\W.cell? ⟨w.heap.size,4,none⟩=some (.string tx))/\MR W (.slice a1 m.xs.length c1) (.slice a2 m.ys.length c2) (.slice a3 m.is.length c3) (.slice a4 m.bs.length c4) (.slice a5 m.fs.length c5) (.slice a6 m.ds.length c6) m/\RSt W (.slice ta ts.length tc) ts/\Sh Z0 m/\DvOk ts):=fun W bb=>by
     obtain ⟨k1,k2,k3,k4,k5⟩:=HW3.out;have a1':=k1.over bb;have a2':=k4.over bb;have a3':=k2.below bb;exact ⟨⟨a1'.cell 0,a1'.cell 1,a1'.cell 2,a1'.cell 3,a1'.cell 4,a1'.cell 5,a1'.cell 6,a1'.cell 7⟩,⟨a2'.cell 0,a2'.cell 1,a2'.cell 2,a2'.cell 3,a2'.cell 4⟩,a3'.mo.mr,a3'.dv.rst,a3'.sh,a3'.dk⟩
    obtain ⟨⟨x0,x1,x2,x3,x4,x5,x6,x7⟩,⟨e0,e1,e2,e3,e4⟩,-⟩:=HX3.out w3 bR;go_upto_region 8 with fail
    clear x0 x1 x2 x3 x4 x5 x6 x7 e0 e1 e2 e3 e4;go_cut [7] from 50 to 61 (fun c7 wx=>∃ (bm:Nat) (n1:Option Addr) (o1:Nat) (n2:Option Addr) (o2:Nat) (n3:Option Addr) (o3:Nat) (n4:Option Addr) (o4:Nat) (n5:Option Addr) (o5:Nat) (n6:Option Addr) (o6:Nat) (n7:Option Addr) (o7:Nat) (mf:MD) (tf:List ByteArray),c7=.pointer (some ⟨bm,0,none⟩)/\AtC wx bm 71 #[.slice n1 mf.xs.length o1,.slice n2 mf.ys.length o2,.slice n3 mf.is.length o3,.slice n4 mf.bs.length o4,.slice n5 mf.fs.length o5,.slice n6 mf.ds.length o6,.int .i64 mf.nx,.slice n7 tf.length o7]/\MO wx (fun k=>w3.heap.size<=k/\k≠bm) (.slice n1 mf.xs.length o1) (.slice n2 mf.ys.length o2) (.slice n3 mf.is.length o3) (.slice n4 mf.bs.length o4) (.slice n5 mf.fs.length o5) (.slice n6 mf.ds.length o6) mf/\ROwns wx w3.heap.size 9 (.slice n7 tf.length o7) (stc tf)/\Sh Z0 mf/\DvOk tf/\Below w3.heap.size w3 wx/\w3.heap.size<=bm)
    case first =>
     refine zdk (by kernel_rfl) [0,1,2,3,4,5,6,7,8,9,10,12] 11 [0,1,2,3,4,5,6,7,8,10] (fun i=>match i with|0=>.const [] (.pointer (some ⟨b,0,none⟩))|1=>.const [0] (.pointer (some ⟨b,0,none⟩))|2=>.const [1] (.pointer (some ⟨b,0,none⟩))|3=>.const [2] (.agg #[.slice a1 m.xs.length c1,.slice a2 m.ys.length c2,.slice a3 m.is.length c3,.slice a4 m.bs.length c4,.slice a5 m.fs.length c5,.slice a6 m.ds.length c6,.int .i64 m.nx,.slice ta ts.length tc])|4=>.const [] (.pointer (some ⟨w.heap.size,3,none⟩))|5=>.const [4] (.int .i64 at_)|6=>MkT2 [3,5] FsR FsR.below|7=>MkMv 6|8=>MkFs 7|9=>MkSd 7|10=>MkW 71 #[.slice none 0 0,.slice none 0 0,.slice none 0 0,.slice none 0 0,.slice none 0 0,.slice none 0 0,.int .i64 0,.slice none 0 0]|12=>MkId 9|_=>.triv) (fun x=>⟨List.toArray ((.pointer (some ⟨b,0,none⟩))::(.agg #[.int .i64 6,.string p,.string q,.int .i64 at_,.string tx])::(undef)::(.pointer (some ⟨w.heap.size,0,none⟩))::(u4)::(.int .i64 cc)::(.bool r)::(x 10)::(x 12)::(undef)::(undef)::(undef)::(undef)::(undef)::(undef)::(u15)::(u16)::(u17)::(u18)::(u19)::(u20)::(u21)::(u22)::(u23)::(u24)::(u25)::(u26)::(u27)::(u28)::(u29)::(u30)::(u31)::(u32)::(u33)::(u34)::(u35)::(u36)::(u37)::(u38)::(u39)::(u40)::(u41)::(u42)::(u43)::(u44)::(u45)::(u46)::(u47)::(.pointer (some ⟨w.heap.size,0,none⟩))::(.int .i64 6)::(.bool true)::(.bool true)::(x 7)::(x 0)::(x 1)::(x 2)::(x 3)::(x 4)::(x 5)::(x 6)::(x 8)::(x 9)::(undef)::(undef)::(undef)::(undef)::(undef)::(undef)::(undef)::(undef)::(undef)::(undef)::(undef)::(undef)::(undef)::(undef)::(undef)::(undef)::(undef)::(undef)::(undef)::(undef)::(undef)::(undef)::(undef)::(undef)::(undef)::(undef)::(undef)::(undef)::(undef)::(undef)::(undef)::(undef)::(undef)::(undef)::(undef)::(undef)::(undef)::(undef)::(undef)::(undef)::(undef)::(undef)::(undef)::(undef)::(undef)::(undef)::(undef)::(undef)::(undef)::(undef)::(undef)::(undef)::(undef)::(undef)::(undef)::(undef)::(undef)::(undef)::(undef)::(undef)::(undef)::(undef)::(undef)::(undef)::(undef)::(undef)::(undef)::(undef)::(undef)::(undef)::(undef)::(undef)::(undef)::(undef)::(undef)::(undef)::(undef)::(undef)::(undef)::(undef)::(undef)::[]),[]⟩) (fun i=>match i with|0=>undef|1=>undef|2=>undef|3=>undef|4=>undef|5=>undef|6=>undef|7=>undef|8=>undef|9=>undef|10=>undef|12=>undef|_=>undef) rfl (fun x iv W=>st8v W (iv 10).1 (x 8)) (zat (by kernel_rfl) (by kernel_rfl)) (by kernel_rfl) (by kernel_rfl) (by kernel_rfl) rfl (by decide) (by intro j hj;simp only [List.mem_cons,List.not_mem_nil,or_false] at hj;rcases hj with rfl|rfl|rfl|rfl|rfl|rfl|rfl|rfl|rfl|rfl|rfl|rfl<;>simp [Mk.const,MkT2,MkMv,MkFs,MkSd,MkW,MkId,Mk.val,Mk.val1]) ?_ ?_ ?_ ?_ ?_
     ·intro j v pp x iv W hj;have h8:(8:Nat)≠j:=fun e=>hj (by rw [← e];decide);have h10:(10:Nat)≠j:=fun e=>hj (by rw [← e];decide);show st8v W (upd iv j pp 10).1 (upd x j v 8)=st8v W (iv 10).1 (x 8);rw [zas _ _ _ _ h10,zas _ _ _ _ h8]
     ·intro jo hj so x iw W hd hp K hK;simp only [List.mem_cons,List.not_mem_nil,or_false] at hj;rcases hj with rfl|rfl|rfl|rfl|rfl|rfl|rfl|rfl|rfl|rfl|rfl|rfl<;>refine wpOp_step (o:=_) rfl fun K' hK'=>?_<;>have HK:=hide (fun (v:Value) (W':World) h1 h2=>hK' _ _ (hK v W' h1 h2))<;>simp only [upd,Nat.reduceEqDiff,if_true,if_false] at HK
      ·exact cQ9
      ·exact cQ48
      ·exact cQ62
      ·have e2:x 2=.pointer (some ⟨b,0,none⟩):=hp.post 2 (hd 2 mz0);have bw:=zac hp.bel;obtain ⟨⟨x0,x1,x2,x3,x4,x5,x6,x7⟩,-⟩:=HX3.out W bw;clear bw;simp only [e2] at HK ⊢;go_simp;exact HK.out _ _ bR rfl
      ·exact cQ9
      ·have e4:x 4=.pointer (some ⟨w.heap.size,3,none⟩):=hp.post 4 (hd 4 mz0);have bw:=zac hp.bel;obtain ⟨-,⟨e0,e1,e2,e3,g4⟩,-⟩:=HX3.out W bw;clear bw;simp only [e4] at HK ⊢;go_simp;exact HK.out _ _ bR rfl
      ·have e3:x 3=.agg #[.slice a1 m.xs.length c1,.slice a2 m.ys.length c2,.slice a3 m.is.length c3,.slice a4 m.bs.length c4,.slice a5 m.fs.length c5,.slice a6 m.ds.length c6,.int .i64 m.nx,.slice ta ts.length tc]:=hp.post 3 (hd 3 mz0);have e5:x 5=.int .i64 at_:=hp.post 5 (hd 5 mz1);have HMR:=hide (HX3.out W (zac hp.bel)).2.2;simp only [e3,e5] at HK ⊢;clear e3 e5;go_simp;refine (wb_any _ _ _ _ _ _ _ m ts at_ W HMR.out.1 HMR.out.2.1 HMR.out.2.2.1 HMR.out.2.2.2).mono ?_;rintro e w1 ⟨a,r,rfl,⟨n1,o1,n2,o2,n3,o3,n4,o4,n5,o5,n6,o6,n7,o7,mf,tf,rfl,M4,T4,S4,D4⟩,B1⟩;go_simp;exact HK.out _ _ B1 ⟨_,_,rfl,⟨n1,o1,n2,o2,n3,o3,n4,o4,n5,o5,n6,o6,n7,o7,mf,tf,rfl,M4.bound,T4,fun k hk=>(T4.lt k hk).2,S4,D4⟩,_,rfl⟩
      ·have e6:∃ a r,x 6=.tuple #[a,r]/\FsR (iw 6).1 (iw 6).2 W a r:=hp.post 6 (hd 6 mz0);obtain ⟨a,r,e6,-⟩:=e6;have ea:=hide e6;simp only [e6] at HK ⊢;clear e6;go_simp;exact HK.out _ _ bR ⟨ea.out,a,r,rfl⟩
      ·exact cQ68
      ·exact cQ69
      ·clear hK hK' hp hd;go_simp;exact HK.out _ _ ((Below.refl _ W).alloc nR _) ⟨rfl,by simp,AtC.new W 71 _⟩
      ·exact cQ9
     ·intro jo hj hjn so x iw W' hd hp W K hK;simp only [List.mem_cons,List.not_mem_nil,or_false] at hj;rcases hj with rfl|rfl|rfl|rfl|rfl|rfl|rfl|rfl|rfl|rfl|rfl|rfl
      ·exact absurd (by decide) hjn
      ·exact absurd (by decide) hjn
      ·exact absurd (by decide) hjn
      ·exact absurd (by decide) hjn
      ·exact absurd (by decide) hjn
      ·exact absurd (by decide) hjn
      ·exact absurd (by decide) hjn
      ·exact absurd (by decide) hjn
      ·exact absurd (by decide) hjn
      ·refine wpOp_step (o:=_) rfl fun K' hK'=>?_;have HK:Hid (∀ v,(MkSd 7).P W'.heap.size W'.heap.size W' v (upd x 9 v)->K' ⟨List.toArray ((Value.pointer (some { block:=b,off:=0 })) :: (Value.agg #[Value.int IntKind.i64 6,Value.string p,Value.string q,Value.int IntKind.i64 at_,Value.string tx]) :: (undef) :: (Value.pointer (some { block:=w.heap.size,off:=0 })) :: (u4) :: (Value.int IntKind.i64 cc) :: (Value.bool r) :: (x 10) :: (x 12) :: (undef) :: (undef) :: (undef) :: (undef) :: (undef) :: (undef) :: (u15) :: (u16) :: (u17) :: (u18) :: (u19) :: (u20) :: (u21) :: (u22) :: (u23) :: (u24) :: (u25) :: (u26) :: (u27) :: (u28) :: (u29) :: (u30) :: (u31) :: (u32) :: (u33) :: (u34) :: (u35) :: (u36) :: (u37) :: (u38) :: (u39) :: (u40) :: (u41) :: (u42) :: (u43) :: (u44) :: (u45) :: (u46) :: (u47) :: (Value.pointer (some { block:=w.heap.size,off:=0 })) :: (Value.int IntKind.i64 6) :: (Value.bool true) :: (Value.bool true) :: (x 7) :: (x 0) :: (x 1) :: (x 2) :: (x 3) :: (x 4) :: (x 5) :: (x 6) :: (x 8) :: (v) :: (undef) :: (undef) :: (undef) :: (undef) :: (undef) :: (undef) :: (undef) :: (undef) :: (undef) :: (undef) :: (undef) :: (undef) :: (undef) :: (undef) :: (undef) :: (undef) :: (undef) :: (undef) :: (undef) :: (undef) :: (undef) :: (undef) :: (undef) :: (undef) :: (undef) :: (undef) :: (undef) :: (undef) :: (undef) :: (undef) :: (undef) :: (undef) :: (undef) :: (undef) :: (undef) :: (undef) :: (undef) :: (undef) :: (undef) :: (undef) :: (undef) :: (undef) :: (undef) :: (undef) :: (undef) :: (undef) :: (undef) :: (undef) :: (undef) :: (undef) :: (undef) :: (undef) :: (undef) :: (undef) :: (undef) :: (undef) :: (undef) :: (undef) :: (undef) :: (undef) :: (undef) :: (undef) :: (undef) :: (undef) :: (undef) :: (undef) :: (undef) :: (undef) :: (undef) :: (undef) :: (undef) :: (undef) :: (undef) :: (undef) :: (undef) :: (undef) :: (undef) :: (undef) :: (undef) :: (undef) :: (undef) :: []),[]⟩ W):=fun v h2=>hK' _ _ (hK v h2);have e7:x 6=x 7/\∃ a r,x 7=.tuple #[a,r]:=hp.post 7 (hd 7 mz0);obtain ⟨-,a,r,e7⟩:=e7;have ea:Hid (r=sndOf (x 7)):=by rw [e7];rfl
       simp only [e7] at HK ⊢;clear e7;go_simp;exact HK.out _ ea.out
      ·exact absurd (by decide) hjn
      ·refine wpOp_step (o:=_) rfl fun K' hK'=>?_;have HK:Hid (∀ v,(MkId 9).P W'.heap.size W'.heap.size W' v (upd x 12 v)->K' ⟨List.toArray ((Value.pointer (some { block:=b,off:=0 })) :: (Value.agg #[Value.int IntKind.i64 6,Value.string p,Value.string q,Value.int IntKind.i64 at_,Value.string tx]) :: (undef) :: (Value.pointer (some { block:=w.heap.size,off:=0 })) :: (u4) :: (Value.int IntKind.i64 cc) :: (Value.bool r) :: (x 10) :: (v) :: (undef) :: (undef) :: (undef) :: (undef) :: (undef) :: (undef) :: (u15) :: (u16) :: (u17) :: (u18) :: (u19) :: (u20) :: (u21) :: (u22) :: (u23) :: (u24) :: (u25) :: (u26) :: (u27) :: (u28) :: (u29) :: (u30) :: (u31) :: (u32) :: (u33) :: (u34) :: (u35) :: (u36) :: (u37) :: (u38) :: (u39) :: (u40) :: (u41) :: (u42) :: (u43) :: (u44) :: (u45) :: (u46) :: (u47) :: (Value.pointer (some { block:=w.heap.size,off:=0 })) :: (Value.int IntKind.i64 6) :: (Value.bool true) :: (Value.bool true) :: (x 7) :: (x 0) :: (x 1) :: (x 2) :: (x 3) :: (x 4) :: (x 5) :: (x 6) :: (x 8) :: (x 9) :: (undef) :: (undef) :: (undef) :: (undef) :: (undef) :: (undef) :: (undef) :: (undef) :: (undef) :: (undef) :: (undef) :: (undef) :: (undef) :: (undef) :: (undef) :: (undef) :: (undef) :: (undef) :: (undef) :: (undef) :: (undef) :: (undef) :: (undef) :: (undef) :: (undef) :: (undef) :: (undef) :: (undef) :: (undef) :: (undef) :: (undef) :: (undef) :: (undef) :: (undef) :: (undef) :: (undef) :: (undef) :: (undef) :: (undef) :: (undef) :: (undef) :: (undef) :: (undef) :: (undef) :: (undef) :: (undef) :: (undef) :: (undef) :: (undef) :: (undef) :: (undef) :: (undef) :: (undef) :: (undef) :: (undef) :: (undef) :: (undef) :: (undef) :: (undef) :: (undef) :: (undef) :: (undef) :: (undef) :: (undef) :: (undef) :: (undef) :: (undef) :: (undef) :: (undef) :: (undef) :: (undef) :: (undef) :: (undef) :: (undef) :: (undef) :: (undef) :: (undef) :: (undef) :: (undef) :: (undef) :: (undef) :: []),[]⟩ W):=fun v h2=>hK' _ _ (hK v h2);go_simp;exact HK.out _ rfl
     ·intro so x iw W hne hp K hK;obtain ⟨a,rv,e6,⟨n1,o1,n2,o2,n3,o3,n4,o4,n5,o5,n6,o6,n7,o7,mf,tf,ha,-⟩,-⟩:=hp.post 6 (hne 6 (by decide));obtain ⟨e7,-⟩:=hp.post 7 (hne 7 (by decide));have e8:x 8=fstOf (x 7):=hp.post 8 (hne 8 (by decide));obtain ⟨e10,z10,A10⟩:=hp.post 10 (hne 10 (by decide));rw [← e7,e6] at e8
      replace e8:x 8=a:=e8
      rw [ha] at e8;have HKS:Hid (K ⟨List.toArray ((Value.pointer (some { block:=b,off:=0 })) :: (Value.agg #[Value.int IntKind.i64 6,Value.string p,Value.string q,Value.int IntKind.i64 at_,Value.string tx]) :: (undef) :: (Value.pointer (some { block:=w.heap.size,off:=0 })) :: (u4) :: (Value.int IntKind.i64 cc) :: (Value.bool r) :: (x 10) :: (x 12) :: (undef) :: (undef) :: (undef) :: (undef) :: (undef) :: (undef) :: (u15) :: (u16) :: (u17) :: (u18) :: (u19) :: (u20) :: (u21) :: (u22) :: (u23) :: (u24) :: (u25) :: (u26) :: (u27) :: (u28) :: (u29) :: (u30) :: (u31) :: (u32) :: (u33) :: (u34) :: (u35) :: (u36) :: (u37) :: (u38) :: (u39) :: (u40) :: (u41) :: (u42) :: (u43) :: (u44) :: (u45) :: (u46) :: (u47) :: (Value.pointer (some { block:=w.heap.size,off:=0 })) :: (Value.int IntKind.i64 6) :: (Value.bool true) :: (Value.bool true) :: (x 7) :: (x 0) :: (x 1) :: (x 2) :: (x 3) :: (x 4) :: (x 5) :: (x 6) :: (x 8) :: (x 9) :: (undef) :: (undef) :: (undef) :: (undef) :: (undef) :: (undef) :: (undef) :: (undef) :: (undef) :: (undef) :: (undef) :: (undef) :: (undef) :: (undef) :: (undef) :: (undef) :: (undef) :: (undef) :: (undef) :: (undef) :: (undef) :: (undef) :: (undef) :: (undef) :: (undef) :: (undef) :: (undef) :: (undef) :: (undef) :: (undef) :: (undef) :: (undef) :: (undef) :: (undef) :: (undef) :: (undef) :: (undef) :: (undef) :: (undef) :: (undef) :: (undef) :: (undef) :: (undef) :: (undef) :: (undef) :: (undef) :: (undef) :: (undef) :: (undef) :: (undef) :: (undef) :: (undef) :: (undef) :: (undef) :: (undef) :: (undef) :: (undef) :: (undef) :: (undef) :: (undef) :: (undef) :: (undef) :: (undef) :: (undef) :: (undef) :: (undef) :: (undef) :: (undef) :: (undef) :: (undef) :: (undef) :: (undef) :: (undef) :: (undef) :: (undef) :: (undef) :: (undef) :: (undef) :: (undef) :: (undef) :: (undef) :: []),[]⟩ (st8v W (iw 10).1 (.agg #[.slice n1 mf.xs.length o1,.slice n2 mf.ys.length o2,.slice n3 mf.is.length o3,.slice n4 mf.bs.length o4,.slice n5 mf.fs.length o5,.slice n6 mf.ds.length o6,.int .i64 mf.nx,.slice n7 tf.length o7]))):=by rw [← e8];exact hK
      have y20:=A10.c0;have f0:=A10.frozen 0;have y21:=A10.c1;have f1:=A10.frozen 1;have y22:=A10.c2;have f2:=A10.frozen 2;have y23:=A10.c3;have f3:=A10.frozen 3;have y24:=A10.c4;have f4:=A10.frozen 4;have y25:=A10.c5;have f5:=A10.frozen 5;have y26:=A10.c6;have f6:=A10.frozen 6;have y27:=A10.c7;have f7:=A10.frozen 7;refine wpOp_step (o:=_) rfl fun K' hK'=>?_;have HK2:=hide (hK' _ _ HKS.out);simp only [e8,e10] at HK2 ⊢;clear hK hK' hp hne e6 e7 e8 e10 z10 A10 HKS ha;go_simp;exact HK2.out
     ·intro x iw W hp;obtain ⟨a,r,e6,⟨n1,o1,n2,o2,n3,o3,n4,o4,n5,o5,n6,o6,n7,o7,mf,tf,ha,hM,hT,hTl,hS,hD⟩,bb,hr⟩:=hp.post 6 (by decide);obtain ⟨e7,-⟩:=hp.post 7 (by decide);have e8:x 8=fstOf (x 7):=hp.post 8 (by decide);have e9:x 9=sndOf (x 7):=hp.post 9 (by decide);obtain ⟨e10,z10,A10⟩:=hp.post 10 (by decide);have e12:x 12=x 9:=hp.post 12 (by decide);have l10:=hp.lo 10 (by decide);have l6:=hp.lo 6 (by decide);have bel:=zac hp.bel;have ap:=hp.apart 6 (by decide) 10 (by decide) (by decide);rw [← e7,e6] at e8 e9;rw [e6] at e7
      replace e7:=e7.symm
      replace e8:x 8=a:=e8
      replace e9:x 9=r:=e9
      rw [e9] at e12;subst ha hr;have h6':w3.heap.size<=(iw 6).1:=l6.1;have h10:w3.heap.size<=(iw 10).1:=l10.1;have HFI:Hid (AtC (st8v W (iw 10).1 (.agg #[.slice n1 mf.xs.length o1,.slice n2 mf.ys.length o2,.slice n3 mf.is.length o3,.slice n4 mf.bs.length o4,.slice n5 mf.fs.length o5,.slice n6 mf.ds.length o6,.int .i64 mf.nx,.slice n7 tf.length o7])) (iw 10).1 71 #[.slice n1 mf.xs.length o1,.slice n2 mf.ys.length o2,.slice n3 mf.is.length o3,.slice n4 mf.bs.length o4,.slice n5 mf.fs.length o5,.slice n6 mf.ds.length o6,.int .i64 mf.nx,.slice n7 tf.length o7]/\MO (st8v W (iw 10).1 (.agg #[.slice n1 mf.xs.length o1,.slice n2 mf.ys.length o2,.slice n3 mf.is.length o3,.slice n4 mf.bs.length o4,.slice n5 mf.fs.length o5,.slice n6 mf.ds.length o6,.int .i64 mf.nx,.slice n7 tf.length o7])) (fun k=>w3.heap.size<=k/\k≠(iw 10).1) (.slice n1 mf.xs.length o1) (.slice n2 mf.ys.length o2) (.slice n3 mf.is.length o3) (.slice n4 mf.bs.length o4) (.slice n5 mf.fs.length o5) (.slice n6 mf.ds.length o6) mf/\ROwns (st8v W (iw 10).1 (.agg #[.slice n1 mf.xs.length o1,.slice n2 mf.ys.length o2,.slice n3 mf.is.length o3,.slice n4 mf.bs.length o4,.slice n5 mf.fs.length o5,.slice n6 mf.ds.length o6,.int .i64 mf.nx,.slice n7 tf.length o7])) w3.heap.size 9 (.slice n7 tf.length o7) (stc tf)/\Sh Z0 mf/\DvOk tf/\Below w3.heap.size w3 (st8v W (iw 10).1 (.agg #[.slice n1 mf.xs.length o1,.slice n2 mf.ys.length o2,.slice n3 mf.is.length o3,.slice n4 mf.bs.length o4,.slice n5 mf.fs.length o5,.slice n6 mf.ds.length o6,.int .i64 mf.nx,.slice n7 tf.length o7]))/\w3.heap.size<=(iw 10).1) :=
       ⟨zjc A10 _ _ _ _ _ _ _ _,(hM.of_heap fun k hk _=>zag _ _ _ _ _ _ _ _ _ _ k (by have:(iw 6).1<=k/\k < (iw 6).2:=hk;omega)).mono (fun k hk=>by have:(iw 6).1<=k/\k < (iw 6).2:=hk;omega),(hT.of_heap fun k hk=>zag _ _ _ _ _ _ _ _ _ _ k (by have:=(hT.lt k hk).1;have:=hTl k hk;omega)).base_le (by omega),hS,hD,zaq bel h10 _ _ _ _ _ _ _ _,h10⟩
      clear hp A10 bel ap l10 l6 z10 h6' h10 hM hT hTl hS hD;simp only [e8,e9,e10,e12,e7,e6] at *;try go_wp2_with fail
      go_meet
      exact ⟨_,_,_,_,_,_,_,_,_,_,_,_,_,_,_,mf,tf,rfl,HFI.out.1,HFI.out.2.1,HFI.out.2.2.1,HFI.out.2.2.2.1,HFI.out.2.2.2.2.1,HFI.out.2.2.2.2.2.1,HFI.out.2.2.2.2.2.2⟩
    case rest =>
     obtain ⟨bm,n1,o1,n2,o2,n3,o3,n4,o4,n5,o5,n6,o6,n7,o7,mf,tf,rfl,Am,M4,T4,S4,D4,B4,lm⟩:=hcut;obtain ⟨w4,e4⟩:∃ w4,w4=wc:=⟨_,rfl⟩
     subst e4;obtain ⟨W5,hW5⟩:∃ W5,((((((((w4.setCell ⟨b,0,none⟩ (.slice n1 mf.xs.length o1)).setCell ⟨b,1,none⟩ (.slice n2 mf.ys.length o2)).setCell ⟨b,2,none⟩ (.slice n3 mf.is.length o3)).setCell ⟨b,3,none⟩ (.slice n4 mf.bs.length o4)).setCell ⟨b,4,none⟩ (.slice n5 mf.fs.length o5)).setCell ⟨b,5,none⟩ (.slice n6 mf.ds.length o6)).setCell ⟨b,6,none⟩ (.int .i64 mf.nx)).setCell ⟨b,7,none⟩ (.slice n7 tf.length o7))=W5:=⟨_,rfl⟩
     have HW5:Hid (AtC W5 b 89 #[.slice n1 mf.xs.length o1,.slice n2 mf.ys.length o2,.slice n3 mf.is.length o3,.slice n4 mf.bs.length o4,.slice n5 mf.fs.length o5,.slice n6 mf.ds.length o6,.int .i64 mf.nx,.slice n7 tf.length o7,.slice ma ns.length mc,.slice ka cs.length kc,.slice pa pl pc]/\Wp W5 B b (n+1) n1 n2 n3 n4 n5 n6 n7 ma ka pa o1 o2 o3 o4 o5 o6 o7 mc kc pl pc mf tf ns cs/\cs.length<=n/\AtC W5 w.heap.size 94 #[.int .i64 6,.string p,.string q,.int .i64 at_,.string tx]/\w.grownBy W5 (some b)):=HFS.out w4 W5 bm n1 o1 n2 o2 n3 o3 n4 o4 n5 o5 n6 o6 n7 o7 mf tf M4 T4 S4 D4 B4 hW5.symm;have AB:AtC w4 b 89 #[.slice a1 m.xs.length c1,.slice a2 m.ys.length c2,.slice a3 m.is.length c3,.slice a4 m.bs.length c4,.slice a5 m.fs.length c5,.slice a6 m.ds.length c6,.int .i64 m.nx,.slice ta ts.length tc,.slice ma ns.length mc,.slice ka cs.length kc,.slice pa pl pc]:=HW3.out.1.over B4;have hne:¬ bm=b:=by omega
     have hne2:¬ b=bm:=by omega
     obtain ⟨y0,y1,y2,y3,y4,y5,y6,y7⟩:=AtC.eig AB;have f0:=AB.frozen 0;have f1:=AB.frozen 1;have f2:=AB.frozen 2;have f3:=AB.frozen 3;have f4:=AB.frozen 4;have f5:=AB.frozen 5;have f6:=AB.frozen 6;have f7:=AB.frozen 7;obtain ⟨t0,t1,t2,t3,t4,t5,t6,t7⟩:=AtC.eig Am;clear M4 T4 S4 D4 AB HFS HX3 Am;go_upto_region 21 with fail
     clear hW5 y0 y1 y2 y3 y4 y5 y6 y7 f0 f1 f2 f3 f4 f5 f6 f7 t0 t1 t2 t3 t4 t5 t6 t7;have HE:Hid (AtC W5 b 89 #[.slice n1 mf.xs.length o1,.slice n2 mf.ys.length o2,.slice n3 mf.is.length o3,.slice n4 mf.bs.length o4,.slice n5 mf.fs.length o5,.slice n6 mf.ds.length o6,.int .i64 mf.nx,.slice n7 tf.length o7,.slice ma ns.length mc,.slice ka cs.length kc,.slice pa pl pc]/\Wp W5 B b (n+1) n1 n2 n3 n4 n5 n6 n7 ma ka pa o1 o2 o3 o4 o5 o6 o7 mc kc pl pc mf tf ns cs/\cs.length<=n/\w.grownBy W5 (some b)):=⟨HW5.out.1,HW5.out.2.1,HW5.out.2.2.1,HW5.out.2.2.2.2⟩
     have hbW:b < W5.heap.size:=HE.out.1.lt;obtain ⟨WA,hWA⟩:∃ WA,W5.alloc (.cells #[] 3)=WA:=⟨_,rfl⟩
     have HA:Hid (WA.ownsRow W5.heap.size 3 1 (.slice (some ⟨W5.heap.size,0,none⟩) 0 0) 0 []/\RC WA (.slice ka cs.length kc) cs.length (ic cs)/\Below W5.heap.size W5 WA/\W5.heap.size<=WA.heap.size/\WA.cell? ⟨b,9,none⟩=some (.slice ka cs.length kc)):=by
      rw [← hWA];have bb:=(Below.refl _ W5).alloc nR (.cells #[] 3);have hr:=(HE.out.2.1.co.below bb nR).rints.rc;exact ⟨(AtC.new W5 3 #[]).empty _ nR 1,hr,bb,bb.size,(HE.out.1.over bb).cell 9⟩
     have z9:=HA.out.2.2.2.2;have HLC:Hid (cs.length<=100000000000):=by have:=HE.out.2.2.1;show _<=_;omega
     have HIO:Hid (∀ u∈ic cs,u.oneCell'=true):=fun u hu=>by simp [ic] at hu;obtain ⟨z,-,rfl⟩:=hu;rfl
     have HIL:Hid ((ic cs).length=cs.length * 1):=by show _=_;rw [zaf];omega
     have HIL2:Hid ((ic cs).length<=100000000000):=by have:=HE.out.2.2.1;show _<=_;rw [zaf];omega
     have HM8:Hid (∀ (v8:Value) (w8:World),w8.ownsRow W5.heap.size 3 1 v8 cs.length (ic cs)->WA.grownBy w8 (Value.slice (some ⟨W5.heap.size,0,none⟩) 0 0).ownBlock->ROwns (w8.alloc (.cells #[.int .i64 cc] 3)) W5.heap.size 3 v8 (ic cs)/\(w8.alloc (.cells #[.int .i64 cc] 3)).cell? ⟨w8.heap.size,0,none⟩=some (.int .i64 cc)/\W5.heap.size<=(w8.alloc (.cells #[.int .i64 cc] 3)).heap.size/\Below W5.heap.size W5 (w8.alloc (.cells #[.int .i64 cc] 3))):=fun v8 w8 R1 R2=>by
      have R1':ROwns w8 W5.heap.size 3 v8 (ic cs):=by unfold ROwns;rw [zaf];exact R1
      have b8:Below W5.heap.size W5 w8:=HA.out.2.2.1.grown R2 HA.out.2.2.2.1 (fun k hk=>by simp [Value.ownBlock] at hk;omega);have b9:=b8.alloc b8.size (.cells #[.int .i64 cc] 3);exact ⟨R1'.alloc _,(AtC.new w8 3 #[.int .i64 cc]).cell 0,b9.size,b9⟩
     have HM9:Hid (∀ (v8:Value) (w8:World) (v9:Value) (w9:World),ROwns (w8.alloc (.cells #[.int .i64 cc] 3)) W5.heap.size 3 v8 (ic cs)->Below W5.heap.size W5 (w8.alloc (.cells #[.int .i64 cc] 3))->ROwns w9 W5.heap.size 3 v9 (ic cs ++ [.int .i64 cc])->(w8.alloc (.cells #[.int .i64 cc] 3)).grownBy w9 v8.ownBlock->∃ ka9 kc9,v9=.slice ka9 (cs ++ [cc]).length kc9/\w9.frozen? ⟨b,9,none⟩=false/\(∃ x,w9.cell? ⟨b,9,none⟩=some x)/\WB (w9.setCell ⟨b,9,none⟩ v9) B b (n+1)/\w.grownBy (w9.setCell ⟨b,9,none⟩ v9) (some b)):=fun v8 w8 v9 w9 O8 b8 O9 G9=>by
      obtain ⟨k1,k2,k3,k4⟩:=HE.out;have O9':ROwns w9 W5.heap.size 3 v9 (ic (cs ++ [cc])):=by simpa [ic] using O9
      obtain ⟨ka9,kc9,e9,-⟩:=O9'.form;rw [zaf] at e9;subst e9;have b9:Below W5.heap.size W5 w9:=b8.grown G9 b8.size (fun k hk=>(O8.lt k hk).1);have hg:w9.grownBy (w9.setCell ⟨b,9,none⟩ (.slice ka9 (cs ++ [cc]).length kc9)) (some b):=zan (zbd _ _);have h0:=(k2.below b9).grown hg;have hz:=k4.size;refine ⟨ka9,kc9,rfl,(k1.over b9).frozen 9,⟨_,(k1.over b9).cell 9⟩,⟨n1,n2,n3,n4,n5,n6,n7,ma,ka9,pa,o1,o2,o3,o4,o5,o6,o7,mc,kc9,pl,pc,mf,tf,ns,cs ++ [cc],(k1.over b9).set 9 _,⟨h0.mo,h0.sh,h0.dv,h0.dn,h0.dk,h0.nd,h0.nn,h0.nl,h0.nb,(O9'.of_heap (fun k hk=>hg.block k (O9'.lt k hk).2 (by have:=(O9'.lt k hk).1;simp;omega))).base_le (by omega),fun k hk=>by have:=(O9'.lt k hk).1;omega,by simp;omega⟩,hBb⟩,zad (zad k4 (zam b9 _)) hg⟩
     go_wp2_with (first | (at_builtin;refine zah _ rfl (.tmp 132) (.tmp 136) 35 rfl W5.heap.size 3 Tryz.u35 _ 1 8 Tryz.i3 rfl (by decide) (by decide) (.slice (some ⟨W5.heap.size,0,none⟩) 0 0) rfl HA.out.1 HA.out.2.2.2.1 _ rfl cs.length (ic cs) HA.out.2.1 HIL.out HIO.out HLC.out ?_;intro v8 w8 R1 R2 R3;have HR8:=hide (HM8.out v8 w8 R1 R2);clear R1 R2 R3) | (at_builtin;refine wpList_step fun K' hK'=>?_;refine zal _ rfl (.tmp 137) (.tmp 139) 35 rfl W5.heap.size 3 Tryz.u35 _ 8 Tryz.i3 rfl (by decide) v8 _ rfl HR8.out.1 HR8.out.2.2.1 w8.heap.size (.int .i64 cc) rfl HR8.out.2.1 rfl HIL2.out ?_;intro v9 w9 T9 G9 V9;refine hK' _ _ ?_;obtain ⟨ka9,kc9,rfl,hfz,⟨xx,hcx⟩,hWB⟩:=HM9.out v8 w8 v9 w9 HR8.out.1 HR8.out.2.2.2 T9 G9;have HWB:=hide hWB;clear T9 G9 V9 hK' hWB))
     go_end0
     have hfin:=HWB.out;simp only [List.length_append,List.length_cons,List.length_nil,Nat.zero_add] at hfin;exact ⟨rfl,hfin.1,hfin.2⟩
   by_cases h7:kd=7
   ·subst h7;obtain ⟨x0,x1,x2,x3,x4,x5,x6,x7⟩:=AtC.eig HW3.out.1;have HMR:Hid (MR w3 (.slice a1 m.xs.length c1) (.slice a2 m.ys.length c2) (.slice a3 m.is.length c3) (.slice a4 m.bs.length c4) (.slice a5 m.fs.length c5) (.slice a6 m.ds.length c6) m/\RSt w3 (.slice ta ts.length tc) ts/\Sh Z0 m/\DvOk ts):=⟨HW3.out.2.1.mo.mr,HW3.out.2.1.dv.rst,HW3.out.2.1.sh,HW3.out.2.1.dk⟩
    go_wp2_with fail
    refine (zjj _ _ _ _ _ _ _ m ts w3 HMR.out.1 HMR.out.2.1 HMR.out.2.2.1 HMR.out.2.2.2).mono ?_;rintro e w4 ⟨fa,rfl,⟨n1,o1,n2,o2,n3,o3,n4,o4,n5,o5,n6,o6,n7,o7,mf,tf,rfl,M4,T4,S4,D4⟩,B4⟩;obtain ⟨W5,hW5⟩:∃ W5,((((((((w4.setCell ⟨b,0,none⟩ (.slice n1 mf.xs.length o1)).setCell ⟨b,1,none⟩ (.slice n2 mf.ys.length o2)).setCell ⟨b,2,none⟩ (.slice n3 mf.is.length o3)).setCell ⟨b,3,none⟩ (.slice n4 mf.bs.length o4)).setCell ⟨b,4,none⟩ (.slice n5 mf.fs.length o5)).setCell ⟨b,5,none⟩ (.slice n6 mf.ds.length o6)).setCell ⟨b,6,none⟩ (.int .i64 mf.nx)).setCell ⟨b,7,none⟩ (.slice n7 tf.length o7))=W5:=⟨_,rfl⟩
    have HW5:Hid (AtC W5 b 89 #[.slice n1 mf.xs.length o1,.slice n2 mf.ys.length o2,.slice n3 mf.is.length o3,.slice n4 mf.bs.length o4,.slice n5 mf.fs.length o5,.slice n6 mf.ds.length o6,.int .i64 mf.nx,.slice n7 tf.length o7,.slice ma ns.length mc,.slice ka cs.length kc,.slice pa pl pc]/\Wp W5 B b (n+1) n1 n2 n3 n4 n5 n6 n7 ma ka pa o1 o2 o3 o4 o5 o6 o7 mc kc pl pc mf tf ns cs/\cs.length<=n/\AtC W5 w.heap.size 94 #[.int .i64 7,.string p,.string q,.int .i64 at_,.string tx]/\w.grownBy W5 (some b)):=HFS.out w4 W5 b n1 o1 n2 o2 n3 o3 n4 o4 n5 o5 n6 o6 n7 o7 mf tf (M4.mono (fun k hk=>by have:w3.heap.size<=k:=hk;exact ⟨this,by omega⟩)) T4 S4 D4 B4 hW5.symm;have AB:AtC w4 b 89 #[.slice a1 m.xs.length c1,.slice a2 m.ys.length c2,.slice a3 m.is.length c3,.slice a4 m.bs.length c4,.slice a5 m.fs.length c5,.slice a6 m.ds.length c6,.int .i64 m.nx,.slice ta ts.length tc,.slice ma ns.length mc,.slice ka cs.length kc,.slice pa pl pc]:=HW3.out.1.over B4;obtain ⟨y0,y1,y2,y3,y4,y5,y6,y7⟩:=AtC.eig AB;have f0:=AB.frozen 0;have f1:=AB.frozen 1;have f2:=AB.frozen 2;have f3:=AB.frozen 3;have f4:=AB.frozen 4;have f5:=AB.frozen 5;have f6:=AB.frozen 6;have f7:=AB.frozen 7;obtain ⟨W6,hW6⟩:∃ W6,W5.alloc (.cells #[] 114)=W6:=⟨_,rfl⟩
    have HW6:Hid (W6.ownsRow W5.heap.size 114 4 (.slice (some ⟨W5.heap.size,0,none⟩) 0 0) 0 []/\RC W6 (.slice ma ns.length mc) ns.length (ns.map ndRow).flatten/\Below W5.heap.size W5 W6/\W5.heap.size<=W6.heap.size/\W6.cell? ⟨b,8,none⟩=some (.slice ma ns.length mc)/\W5.heap.size=w4.heap.size):=by
     rw [← hW6];have bb:=(Below.refl _ W5).alloc nR (.cells #[] 114);refine ⟨(AtC.new W5 114 #[]).empty _ nR 4,(HW5.out.2.1.nd.below bb).rc,bb,bb.size,(HW5.out.1.over bb).cell 8,?_⟩;rw [← hW5];simp
    have HLN:Hid (ns.length<=100000000000):=by have:=HW3.out.2.1.nl;show _<=_;omega
    have y8:=HW6.out.2.2.2.2.1;have hsz:W5.heap.size=w4.heap.size:=HW6.out.2.2.2.2.2;rw [hsz] at HW6;clear M4 T4 S4 D4 AB HMR x0 x1 x2 x3 x4 x5 x6 x7;have HMK:Hid (∀ v7 w7,w7.ownsRow w4.heap.size 114 4 v7 ns.length (ns.map ndRow).flatten->W6.grownBy w7 (Value.slice (some ⟨w4.heap.size,0,none⟩) 0 0).ownBlock->∃ pa' pc',v7=.slice pa' ns.length pc'/\w7.frozen? ⟨b,10,none⟩=false/\(∃ x,w7.cell? ⟨b,10,none⟩=some x)/\AtC (w7.setCell ⟨b,10,none⟩ (.slice pa' ns.length pc')) b 89 #[.slice n1 mf.xs.length o1,.slice n2 mf.ys.length o2,.slice n3 mf.is.length o3,.slice n4 mf.bs.length o4,.slice n5 mf.fs.length o5,.slice n6 mf.ds.length o6,.int .i64 mf.nx,.slice n7 tf.length o7,.slice ma ns.length mc,.slice ka cs.length kc,.slice pa' ns.length pc']/\Wp (w7.setCell ⟨b,10,none⟩ (.slice pa' ns.length pc')) B b (n+1) n1 n2 n3 n4 n5 n6 n7 ma ka pa' o1 o2 o3 o4 o5 o6 o7 mc kc ns.length pc' mf tf ns cs/\cs.length<=n/\AtC (w7.setCell ⟨b,10,none⟩ (.slice pa' ns.length pc')) w.heap.size 94 #[.int .i64 7,.string p,.string q,.int .i64 at_,.string tx]/\w.grownBy (w7.setCell ⟨b,10,none⟩ (.slice pa' ns.length pc')) (some b)):=fun v7 w7 R1 R2=>by
     obtain ⟨k1,k2,k3,k4,k5⟩:=HW5.out;have O7:=NdO.of_owns R1;obtain ⟨pa',pc',rfl⟩:=O7.form;have b67:Below w4.heap.size W6 w7:=(Below.refl _ W6).mono (by have:=HW6.out.2.2.2.1;omega) |>.grown R2 (by have:=HW6.out.2.2.2.1;omega) (fun k hk=>by simp [Value.ownBlock] at hk;omega);have b57:Below W5.heap.size W5 w7:=by
      rw [hsz];exact (HW6.out.2.2.1.mono (by omega)).trans b67
     have hg:w7.grownBy (w7.setCell ⟨b,10,none⟩ (.slice pa' ns.length pc')) (some b):=zan (zbd _ _);refine ⟨pa',pc',rfl,(k1.over b57).frozen 10,⟨_,(k1.over b57).cell 10⟩,(k1.over b57).set 10 _,(let h0:=(k2.below b57).grown hg;⟨h0.mo,h0.sh,h0.dv,h0.dn,h0.dk,h0.nd,h0.nn,h0.nl,h0.nb,h0.co,h0.cn,h0.cl⟩),k3,(k4.over b57).grown hg (by simp;omega),zad (zad k5 (zam b57 _)) hg⟩
    go_upto_region 21 with (at_builtin;refine zah _ rfl _ _ 87 rfl w4.heap.size 114 Tryz.u87 _ 4 56 Tryz.i114 rfl (by decide) (by decide) (.slice (some ⟨w4.heap.size,0,none⟩) 0 0) rfl HW6.out.1 HW6.out.2.2.2.1 _ rfl ns.length (ns.map ndRow).flatten HW6.out.2.1 (zc7 ns) (zc8 ns) HLN.out ?_;intro v7 w7 R1 R2 R3;obtain ⟨pa',pc',rfl,hfz,⟨xx,hcx⟩,hW⟩:=HMK.out v7 w7 R1 R2;obtain ⟨W8,hW8⟩:∃ W8,(w7.setCell ⟨b,10,none⟩ (.slice pa' ns.length pc'))=W8:=⟨_,rfl⟩;rw [hW8] at hW;have HWF:=hide hW;clear R1 R2 R3 hW)
    clear hfz hcx hW8 HMK HW6 HW5 y8 hW6 hW5 hsz;have HE:Hid (AtC W8 b 89 #[.slice n1 mf.xs.length o1,.slice n2 mf.ys.length o2,.slice n3 mf.is.length o3,.slice n4 mf.bs.length o4,.slice n5 mf.fs.length o5,.slice n6 mf.ds.length o6,.int .i64 mf.nx,.slice n7 tf.length o7,.slice ma ns.length mc,.slice ka cs.length kc,.slice pa' ns.length pc']/\Wp W8 B b (n+1) n1 n2 n3 n4 n5 n6 n7 ma ka pa' o1 o2 o3 o4 o5 o6 o7 mc kc ns.length pc' mf tf ns cs/\cs.length<=n/\w.grownBy W8 (some b)):=⟨HWF.out.1,HWF.out.2.1,HWF.out.2.2.1,HWF.out.2.2.2.2⟩
    have hbW:b < W8.heap.size:=HE.out.1.lt;obtain ⟨WA,hWA⟩:∃ WA,W8.alloc (.cells #[] 3)=WA:=⟨_,rfl⟩
    have HA:Hid (WA.ownsRow W8.heap.size 3 1 (.slice (some ⟨W8.heap.size,0,none⟩) 0 0) 0 []/\RC WA (.slice ka cs.length kc) cs.length (ic cs)/\Below W8.heap.size W8 WA/\W8.heap.size<=WA.heap.size/\WA.cell? ⟨b,9,none⟩=some (.slice ka cs.length kc)):=by
     rw [← hWA];have bb:=(Below.refl _ W8).alloc nR (.cells #[] 3);have hr:=(HE.out.2.1.co.below bb nR).rints.rc;exact ⟨(AtC.new W8 3 #[]).empty _ nR 1,hr,bb,bb.size,(HE.out.1.over bb).cell 9⟩
    have z9:=HA.out.2.2.2.2;have HLC:Hid (cs.length<=100000000000):=by have:=HE.out.2.2.1;show _<=_;omega
    have HIO:Hid (∀ u∈ic cs,u.oneCell'=true):=fun u hu=>by simp [ic] at hu;obtain ⟨z,-,rfl⟩:=hu;rfl
    have HIL:Hid ((ic cs).length=cs.length * 1):=by show _=_;rw [zaf];omega
    have HIL2:Hid ((ic cs).length<=100000000000):=by have:=HE.out.2.2.1;show _<=_;rw [zaf];omega
    have HM8:Hid (∀ (v8:Value) (w8:World),w8.ownsRow W8.heap.size 3 1 v8 cs.length (ic cs)->WA.grownBy w8 (Value.slice (some ⟨W8.heap.size,0,none⟩) 0 0).ownBlock->ROwns (w8.alloc (.cells #[.int .i64 cc] 3)) W8.heap.size 3 v8 (ic cs)/\(w8.alloc (.cells #[.int .i64 cc] 3)).cell? ⟨w8.heap.size,0,none⟩=some (.int .i64 cc)/\W8.heap.size<=(w8.alloc (.cells #[.int .i64 cc] 3)).heap.size/\Below W8.heap.size W8 (w8.alloc (.cells #[.int .i64 cc] 3))):=fun v8 w8 R1 R2=>by
     have R1':ROwns w8 W8.heap.size 3 v8 (ic cs):=by unfold ROwns;rw [zaf];exact R1
     have b8:Below W8.heap.size W8 w8:=HA.out.2.2.1.grown R2 HA.out.2.2.2.1 (fun k hk=>by simp [Value.ownBlock] at hk;omega);have b9:=b8.alloc b8.size (.cells #[.int .i64 cc] 3);exact ⟨R1'.alloc _,(AtC.new w8 3 #[.int .i64 cc]).cell 0,b9.size,b9⟩
    have HM9:Hid (∀ (v8:Value) (w8:World) (v9:Value) (w9:World),ROwns (w8.alloc (.cells #[.int .i64 cc] 3)) W8.heap.size 3 v8 (ic cs)->Below W8.heap.size W8 (w8.alloc (.cells #[.int .i64 cc] 3))->ROwns w9 W8.heap.size 3 v9 (ic cs ++ [.int .i64 cc])->(w8.alloc (.cells #[.int .i64 cc] 3)).grownBy w9 v8.ownBlock->∃ ka9 kc9,v9=.slice ka9 (cs ++ [cc]).length kc9/\w9.frozen? ⟨b,9,none⟩=false/\(∃ x,w9.cell? ⟨b,9,none⟩=some x)/\WB (w9.setCell ⟨b,9,none⟩ v9) B b (n+1)/\w.grownBy (w9.setCell ⟨b,9,none⟩ v9) (some b)):=fun v8 w8 v9 w9 O8 b8 O9 G9=>by
     obtain ⟨k1,k2,k3,k4⟩:=HE.out;have O9':ROwns w9 W8.heap.size 3 v9 (ic (cs ++ [cc])):=by simpa [ic] using O9
     obtain ⟨ka9,kc9,e9,-⟩:=O9'.form;rw [zaf] at e9;subst e9;have b9:Below W8.heap.size W8 w9:=b8.grown G9 b8.size (fun k hk=>(O8.lt k hk).1);have hg:w9.grownBy (w9.setCell ⟨b,9,none⟩ (.slice ka9 (cs ++ [cc]).length kc9)) (some b):=zan (zbd _ _);have h0:=(k2.below b9).grown hg;have hz:=k4.size;refine ⟨ka9,kc9,rfl,(k1.over b9).frozen 9,⟨_,(k1.over b9).cell 9⟩,⟨n1,n2,n3,n4,n5,n6,n7,ma,ka9,pa',o1,o2,o3,o4,o5,o6,o7,mc,kc9,ns.length,pc',mf,tf,ns,cs ++ [cc],(k1.over b9).set 9 _,⟨h0.mo,h0.sh,h0.dv,h0.dn,h0.dk,h0.nd,h0.nn,h0.nl,h0.nb,(O9'.of_heap (fun k hk=>hg.block k (O9'.lt k hk).2 (by have:=(O9'.lt k hk).1;simp;omega))).base_le (by omega),fun k hk=>by have:=(O9'.lt k hk).1;omega,by simp;omega⟩,hBb⟩,zad (zad k4 (zam b9 _)) hg⟩
    go_wp2_with (first | (at_builtin;refine zah _ rfl (.tmp 132) (.tmp 136) 35 rfl W8.heap.size 3 Tryz.u35 _ 1 8 Tryz.i3 rfl (by decide) (by decide) (.slice (some ⟨W8.heap.size,0,none⟩) 0 0) rfl HA.out.1 HA.out.2.2.2.1 _ rfl cs.length (ic cs) HA.out.2.1 HIL.out HIO.out HLC.out ?_;intro v8 w8 R1 R2 R3;have HR8:=hide (HM8.out v8 w8 R1 R2);clear R1 R2 R3) | (at_builtin;refine wpList_step fun K' hK'=>?_;refine zal _ rfl (.tmp 137) (.tmp 139) 35 rfl W8.heap.size 3 Tryz.u35 _ 8 Tryz.i3 rfl (by decide) v8 _ rfl HR8.out.1 HR8.out.2.2.1 w8.heap.size (.int .i64 cc) rfl HR8.out.2.1 rfl HIL2.out ?_;intro v9 w9 T9 G9 V9;refine hK' _ _ ?_;obtain ⟨ka9,kc9,rfl,hfz,⟨xx,hcx⟩,hWB⟩:=HM9.out v8 w8 v9 w9 HR8.out.1 HR8.out.2.2.2 T9 G9;have HWB:=hide hWB;clear T9 G9 V9 hK' hWB))
    go_end0
    have hfin:=HWB.out;simp only [List.length_append,List.length_cons,List.length_nil,Nat.zero_add] at hfin;exact ⟨rfl,hfin.1,hfin.2⟩
   have q6:(kd == 6)=false:=beq_eq_false_iff_ne.mpr h6;have q7:(kd == 7)=false:=beq_eq_false_iff_ne.mpr h7;have q8:(kd == 8)=false:=beq_eq_false_iff_ne.mpr (by omega);go_upto_region 21 with fail
   have HE:Hid (AtC w3 b 89 #[.slice a1 m.xs.length c1,.slice a2 m.ys.length c2,.slice a3 m.is.length c3,.slice a4 m.bs.length c4,.slice a5 m.fs.length c5,.slice a6 m.ds.length c6,.int .i64 m.nx,.slice ta ts.length tc,.slice ma ns.length mc,.slice ka cs.length kc,.slice pa pl pc]/\Wp w3 B b (n+1) a1 a2 a3 a4 a5 a6 ta ma ka pa c1 c2 c3 c4 c5 c6 tc mc kc pl pc m ts ns cs/\cs.length<=n/\w.grownBy w3 (some b)):=⟨HW3.out.1,HW3.out.2.1,HW3.out.2.2.1,HW3.out.2.2.2.2⟩
   have hbW:b < w3.heap.size:=HE.out.1.lt;obtain ⟨WA,hWA⟩:∃ WA,w3.alloc (.cells #[] 3)=WA:=⟨_,rfl⟩
   have HA:Hid (WA.ownsRow w3.heap.size 3 1 (.slice (some ⟨w3.heap.size,0,none⟩) 0 0) 0 []/\RC WA (.slice ka cs.length kc) cs.length (ic cs)/\Below w3.heap.size w3 WA/\w3.heap.size<=WA.heap.size/\WA.cell? ⟨b,9,none⟩=some (.slice ka cs.length kc)):=by
    rw [← hWA];have bb:=(Below.refl _ w3).alloc nR (.cells #[] 3);have hr:=(HE.out.2.1.co.below bb nR).rints.rc;exact ⟨(AtC.new w3 3 #[]).empty _ nR 1,hr,bb,bb.size,(HE.out.1.over bb).cell 9⟩
   have z9:=HA.out.2.2.2.2;have HLC:Hid (cs.length<=100000000000):=by have:=HE.out.2.2.1;show _<=_;omega
   have HIO:Hid (∀ u∈ic cs,u.oneCell'=true):=fun u hu=>by simp [ic] at hu;obtain ⟨z,-,rfl⟩:=hu;rfl
   have HIL:Hid ((ic cs).length=cs.length * 1):=by show _=_;rw [zaf];omega
   have HIL2:Hid ((ic cs).length<=100000000000):=by have:=HE.out.2.2.1;show _<=_;rw [zaf];omega
   have HM8:Hid (∀ (v8:Value) (w8:World),w8.ownsRow w3.heap.size 3 1 v8 cs.length (ic cs)->WA.grownBy w8 (Value.slice (some ⟨w3.heap.size,0,none⟩) 0 0).ownBlock->ROwns (w8.alloc (.cells #[.int .i64 cc] 3)) w3.heap.size 3 v8 (ic cs)/\(w8.alloc (.cells #[.int .i64 cc] 3)).cell? ⟨w8.heap.size,0,none⟩=some (.int .i64 cc)/\w3.heap.size<=(w8.alloc (.cells #[.int .i64 cc] 3)).heap.size/\Below w3.heap.size w3 (w8.alloc (.cells #[.int .i64 cc] 3))):=fun v8 w8 R1 R2=>by
    have R1':ROwns w8 w3.heap.size 3 v8 (ic cs):=by unfold ROwns;rw [zaf];exact R1
    have b8:Below w3.heap.size w3 w8:=HA.out.2.2.1.grown R2 HA.out.2.2.2.1 (fun k hk=>by simp [Value.ownBlock] at hk;omega);have b9:=b8.alloc b8.size (.cells #[.int .i64 cc] 3);exact ⟨R1'.alloc _,(AtC.new w8 3 #[.int .i64 cc]).cell 0,b9.size,b9⟩
   have HM9:Hid (∀ (v8:Value) (w8:World) (v9:Value) (w9:World),ROwns (w8.alloc (.cells #[.int .i64 cc] 3)) w3.heap.size 3 v8 (ic cs)->Below w3.heap.size w3 (w8.alloc (.cells #[.int .i64 cc] 3))->ROwns w9 w3.heap.size 3 v9 (ic cs ++ [.int .i64 cc])->(w8.alloc (.cells #[.int .i64 cc] 3)).grownBy w9 v8.ownBlock->∃ ka9 kc9,v9=.slice ka9 (cs ++ [cc]).length kc9/\w9.frozen? ⟨b,9,none⟩=false/\(∃ x,w9.cell? ⟨b,9,none⟩=some x)/\WB (w9.setCell ⟨b,9,none⟩ v9) B b (n+1)/\w.grownBy (w9.setCell ⟨b,9,none⟩ v9) (some b)):=fun v8 w8 v9 w9 O8 b8 O9 G9=>by
    obtain ⟨k1,k2,k3,k4⟩:=HE.out;have O9':ROwns w9 w3.heap.size 3 v9 (ic (cs ++ [cc])):=by simpa [ic] using O9
    obtain ⟨ka9,kc9,e9,-⟩:=O9'.form;rw [zaf] at e9;subst e9;have b9:Below w3.heap.size w3 w9:=b8.grown G9 b8.size (fun k hk=>(O8.lt k hk).1);have hg:w9.grownBy (w9.setCell ⟨b,9,none⟩ (.slice ka9 (cs ++ [cc]).length kc9)) (some b):=zan (zbd _ _);have h0:=(k2.below b9).grown hg;have hz:=k4.size;refine ⟨ka9,kc9,rfl,(k1.over b9).frozen 9,⟨_,(k1.over b9).cell 9⟩,⟨a1,a2,a3,a4,a5,a6,ta,ma,ka9,pa,c1,c2,c3,c4,c5,c6,tc,mc,kc9,pl,pc,m,ts,ns,cs ++ [cc],(k1.over b9).set 9 _,⟨h0.mo,h0.sh,h0.dv,h0.dn,h0.dk,h0.nd,h0.nn,h0.nl,h0.nb,(O9'.of_heap (fun k hk=>hg.block k (O9'.lt k hk).2 (by have:=(O9'.lt k hk).1;simp;omega))).base_le (by omega),fun k hk=>by have:=(O9'.lt k hk).1;omega,by simp;omega⟩,hBb⟩,zad (zad k4 (zam b9 _)) hg⟩
   go_wp2_with (first | (at_builtin;refine zah _ rfl (.tmp 132) (.tmp 136) 35 rfl w3.heap.size 3 Tryz.u35 _ 1 8 Tryz.i3 rfl (by decide) (by decide) (.slice (some ⟨w3.heap.size,0,none⟩) 0 0) rfl HA.out.1 HA.out.2.2.2.1 _ rfl cs.length (ic cs) HA.out.2.1 HIL.out HIO.out HLC.out ?_;intro v8 w8 R1 R2 R3;have HR8:=hide (HM8.out v8 w8 R1 R2);clear R1 R2 R3) | (at_builtin;refine wpList_step fun K' hK'=>?_;refine zal _ rfl (.tmp 137) (.tmp 139) 35 rfl w3.heap.size 3 Tryz.u35 _ 8 Tryz.i3 rfl (by decide) v8 _ rfl HR8.out.1 HR8.out.2.2.1 w8.heap.size (.int .i64 cc) rfl HR8.out.2.1 rfl HIL2.out ?_;intro v9 w9 T9 G9 V9;refine hK' _ _ ?_;obtain ⟨ka9,kc9,rfl,hfz,⟨xx,hcx⟩,hWB⟩:=HM9.out v8 w8 v9 w9 HR8.out.1 HR8.out.2.2.2 T9 G9;have HWB:=hide hWB;clear T9 G9 V9 hK' hWB))
   go_end0
   have hfin:=HWB.out;simp only [List.length_append,List.length_cons,List.length_nil,Nat.zero_add] at hfin;exact ⟨rfl,hfin.1,hfin.2⟩
namespace Kit
theorem and255 (n:Int):bits .and .i64 n 255=n % 256:=by
 have h8:(BitVec.ofInt 64 255).toNat=2 ^ 8 - 1:=by decide
 show IntKind.i64.wrap ((BitVec.ofInt 64 n &&& BitVec.ofInt 64 255).toNat:Nat)=n % 256;rw [BitVec.toNat_and,BitVec.toNat_ofInt,h8,Nat.and_two_pow_sub_one_eq_mod,IntKind.wrap_i64];omega
theorem and30 (n:Int):bits .and .i64 n 1073741823=n % 1073741824:=by
 have h8:(BitVec.ofInt 64 1073741823).toNat=2 ^ 30 - 1:=by decide
 show IntKind.i64.wrap ((BitVec.ofInt 64 n &&& BitVec.ofInt 64 1073741823).toNat:Nat)=n % 1073741824;rw [BitVec.toNat_and,BitVec.toNat_ofInt,h8,Nat.and_two_pow_sub_one_eq_mod,IntKind.wrap_i64];omega
def zbg (w:World) (a:Option Addr) (len:Nat):Prop:=∀ j,j < len->∃ (b off:Nat) (z:Int),a=some ⟨b,off,none⟩/\b < w.heap.size/\w.cell? ⟨b,off+j,none⟩=some (.int .u8 z)/\0<=z/\z < 256
def Cur (T:TypeId) (w0 w:World) (c:Nat) (a:Option Addr) (len cap:Nat):Prop :=
 w0.heap.size<=c/\Below w0.heap.size w0 w/\∃ (i:Nat) (h:Int),w.heap[c]?=some (.cells #[.slice a len cap,.int .i64 i,.int .i64 h] T (0,0))/\i<=len
theorem zfa {T:TypeId}{w0 w:World}{c len cap i:Nat}{a:Option Addr}{h h2:Int}(q:Nat)(hc0:w0.heap.size<=c)(hB:Below w0.heap.size w0 w)(hblk:w.heap[c]?=some (.cells #[.slice a len cap,.int .i64 i,.int .i64 h] T (0,0)))(hi:i<=len) :
  Cur T w0 ((w.setCell ⟨c,2,none⟩ (.int .i64 h2)).drewN q) c a len cap/\w.grownBy ((w.setCell ⟨c,2,none⟩ (.int .i64 h2)).drewN q) (some c):=by
 have hs:=heap_setCell_same w c 2 _ T (.int .i64 h2) hblk;refine ⟨⟨hc0,below_drewN (hB.setCell (p:=⟨c,2,none⟩) hc0 _) q,i,h2,?_,hi⟩,⟨rfl,rfl,rfl,by show w.heap.size<=(w.setCell _ _).heap.size;simp,fun k _ hk=>heap_setCell_other w ⟨c,2,none⟩ k _ (fun e=>hk (by simp [e]))⟩⟩;show (w.setCell ⟨c,2,none⟩ (.int .i64 h2)).heap[c]?=_;rw [hs];rfl
theorem zhd {T:TypeId}{w0 w:World}{c len cap i:Nat}{a:Option Addr}{h h2:Int}(q:Nat)(hc0:w0.heap.size<=c)(hB:Below w0.heap.size w0 w)(hblk:w.heap[c]?=some (.cells #[.slice a len cap,.int .i64 i,.int .i64 h] T (0,0)))(hi:i < len) :
  Cur T w0 (((w.setCell ⟨c,2,none⟩ (.int .i64 h2)).drewN q).setCell ⟨c,1,none⟩ (.int .i64 ((i:Int)+1))) c a len cap/\w.grownBy (((w.setCell ⟨c,2,none⟩ (.int .i64 h2)).drewN q).setCell ⟨c,1,none⟩ (.int .i64 ((i:Int)+1))) (some c):=by
 obtain ⟨⟨_,hB2,i2,h3,hb2,_⟩,hg⟩:=zfa (h2:=h2) q hc0 hB hblk (by omega);have hs2:=heap_setCell_same w c 2 _ T (.int .i64 h2) hblk;have hb3:((w.setCell ⟨c,2,none⟩ (.int .i64 h2)).drewN q).heap[c]?=some (.cells #[.slice a len cap,.int .i64 i,.int .i64 h2] T (0,0)):=by
  show (w.setCell ⟨c,2,none⟩ (.int .i64 h2)).heap[c]?=_;rw [hs2];rfl
 have hs:=heap_setCell_same ((w.setCell ⟨c,2,none⟩ (.int .i64 h2)).drewN q) c 1 _ T (.int .i64 ((i:Int)+1)) hb3;refine ⟨⟨hc0,hB2.setCell (p:=⟨c,1,none⟩) hc0 _,i+1,h2,?_,by omega⟩,zad hg ⟨rfl,rfl,rfl,by simp,fun k _ hk=>heap_setCell_other _ ⟨c,1,none⟩ k _ (fun e=>hk (by simp [e]))⟩⟩;rw [hs];rfl
theorem Cur.draws {T:TypeId}{w0 w:World}{c len cap:Nat}{a:Option Addr}(h:Cur T w0 w c a len cap)(q:Nat):Cur T w0 (w.drewN q) c a len cap:=⟨h.1,below_drewN h.2.1 q,h.2.2⟩
theorem zfb {w w':World}{row:Option Nat}(h:w.grownBy w' row)(q:Nat):w.grownBy (w'.drewN q) row:=⟨h.os,h.tape,h.output,h.size,h.block⟩
theorem nat_of {x:Int}(h0:0<=x)(h1:x < 256):∃ n:Nat,n < 256/\x=n:=⟨x.toNat,by omega,by omega⟩
theorem zfc {x:Int}{n:Nat}(h:x=n):Ending.returned (.int .i64 x)=.returned (.int .i64 n):=by rw [h]
theorem Owns.grown {w w':World}{base:Nat}{e:TypeId}{v:Value}{l:List UInt8}{row:Option Nat}(h:Owns w base e v l)(hg:w.grownBy w' row)(hr:∀ k,row=some k->k < base):Owns w' base e v l:=by
 refine World.ownsRow.kept h hg ?_
 cases hv:v.ownBlock with
 | none=>exact .inl rfl
 | some k =>
  right
  intro e;have h1:=(World.ownsRow.lt h k hv).1;have h2:=hr k e.symm;omega
end Kit
theorem zjs (w0 w:World)(c:Nat)(a:Option Addr)(len cap:Nat)(hcode:zbg w0 a len)(hlen:len<=1048576)(hcur:Cur 74 w0 w c a len cap) :
  Calls Tryz.prog 45 #[.pointer (some ⟨c,0,none⟩)] w fun e w'=>∃ x:Nat,x < 256/\e=.returned (.int .i64 x)/\Cur 74 w0 w' c a len cap/\w.grownBy w' (some c):=by
 obtain ⟨hc0,hB,i,h,hblk,hi⟩:=hcur;have c0:w.cell? ⟨c,0,none⟩=some (.slice a len cap):=by simp [World.cell?,hblk]
 have c1:w.cell? ⟨c,1,none⟩=some (.int .i64 i):=by simp [World.cell?,hblk]
 have c2:w.cell? ⟨c,2,none⟩=some (.int .i64 h):=by simp [World.cell?,hblk]
 have f1:w.frozen? ⟨c,1,none⟩=false:=by simp [World.frozen?,hblk]
 have f2:w.frozen? ⟨c,2,none⟩=false:=by simp [World.frozen?,hblk]
 have HK:=hide hblk;clear hblk;have a255:=fun n=>and255 n;by_cases hlt:i < len
 ·obtain ⟨b,off,z,rfl,hb,hz,hz0,hz1⟩:=hcode i hlt;have k1:w.cell? ⟨b,off+i,none⟩=some (.int .u8 z):=(hB.cell (p:=⟨b,off+i,none⟩) hb).trans hz;have hne:¬ b=c:=by omega
  have hne':¬ c=b:=by omega
  have i0:(0:Int)<=(i:Int):=by omega
  have i1:(i:Int) < (len:Int):=by omega
  clear hz hcode;go_enter Tryz.func45,Tryz.ntmps45
  go_wp2;generalize wrap64 (wrap64 (h * 6364136223846793005)+1442695040888963407)=h2;go_quiet (fail)
  generalize hx:bits BinOp.xor IntKind.i64 (h2 / 8589934592) (h2 / 35184372088832) % 256=x;have x0:0<=x:=by omega
  have x1:x < 256:=by omega
  clear hx;go_wp2;go_quiet (fail)
  go_wp2;go_quiet (fail)
  go_wp2;go_ret;obtain ⟨n,hn,he⟩:=nat_of (show 0<=(x+z) % 256 by omega) (by omega);exact ⟨n,hn,zfc he,(zhd (h2:=h2) _ hc0 hB HK.out hlt).1,(zhd (h2:=h2) _ hc0 hB HK.out hlt).2⟩
 ·have i1:¬ (i:Int) < (len:Int):=by omega
  clear hcode;go_enter Tryz.func45,Tryz.ntmps45
  go_wp2;generalize wrap64 (wrap64 (h * 6364136223846793005)+1442695040888963407)=h2;go_quiet (fail)
  generalize hx:bits BinOp.xor IntKind.i64 (h2 / 8589934592) (h2 / 35184372088832) % 256=x;have x0:0<=x:=by omega
  have x1:x < 256:=by omega
  clear hx;go_wp2;go_quiet (fail)
  go_wp2;go_ret;obtain ⟨n,hn,he⟩:=nat_of x0 x1;exact ⟨n,hn,zfc he,(zfa (h2:=h2) _ hc0 hB HK.out (by omega)).1.draws _,zfb (zfa (h2:=h2) _ hc0 hB HK.out (by omega)).2 _⟩
def Drew (w0 w w':World) (c:Nat) (a:Option Addr) (len cap:Nat):Prop:=Cur 74 w0 w' c a len cap/\w.grownBy w' (some c)
theorem Drew.trans {w0 w w1 w2:World}{c len cap:Nat}{a:Option Addr}(h:Drew w0 w w1 c a len cap)(k:Drew w0 w1 w2 c a len cap):Drew w0 w w2 c a len cap:=⟨k.1,zad h.2 k.2⟩
theorem Drew.cur {w0 w w':World}{c len cap:Nat}{a:Option Addr}(h:Drew w0 w w' c a len cap):Cur 74 w0 w' c a len cap:=h.1
theorem zcc (w0 w:World)(c:Nat)(a:Option Addr)(len cap:Nat)(hcode:zbg w0 a len)(hlen:len<=1048576)(hcur:Cur 74 w0 w c a len cap) :
  Calls Tryz.prog 45 #[.pointer (some ⟨c,0,none⟩)] w fun e w'=>∃ x:Nat,x < 256/\e=.returned (.int .i64 x)/\Drew w0 w w' c a len cap:=zjs w0 w c a len cap hcode hlen hcur
theorem zax (w0 w:World)(c:Nat)(a:Option Addr)(len cap:Nat)(n:Nat)(hcode:zbg w0 a len)(hlen:len<=1048576)(hcur:Cur 74 w0 w c a len cap)(hn:0 < n)(hn1:n<=4294967296) :
  Calls Tryz.prog 38 #[.pointer (some ⟨c,0,none⟩),.int .i64 n] w fun e w'=>∃ x:Nat,x < n/\e=.returned (.int .i64 x)/\Drew w0 w w' c a len cap:=by
 by_cases h256:n<=256
 ·have nz:((n:Int) == 0)=false:=by simp;omega
  have HC:=hide hcur;have HO:=hide hcode;clear hcur hcode;go_enter Tryz.func38,Tryz.ntmps38
  go_wp2_with fail
  refine (zcc w0 w c a len cap HO.out hlen HC.out).mono ?_;rintro e w1 ⟨x,hx,rfl,hd⟩;have HD:=hide hd;clear hd;go_wp2;go_ret;exact ⟨x % n,Nat.mod_lt _ hn,zfc (Int.natCast_emod x n).symm,HD.out⟩
 ·have nz:((n:Int) == 0)=false:=by simp;omega
  have HC:=hide hcur;have HO:=hide hcode;clear hcur hcode;go_enter Tryz.func38,Tryz.ntmps38
  go_wp2_with fail
  refine (zcc w0 w c a len cap HO.out hlen HC.out).mono ?_;rintro e w1 ⟨x,hx,rfl,hd1⟩;have HD1:=hide hd1;clear hd1;go_wp2_with fail
  refine (zcc w0 w1 c a len cap HO.out hlen HD1.out.cur).mono ?_;rintro e w2 ⟨y,hy,rfl,hd2⟩;have HD2:=hide (HD1.out.trans hd2);clear hd2 HD1;go_wp2_with fail
  refine (zcc w0 w2 c a len cap HO.out hlen HD2.out.cur).mono ?_;rintro e w3 ⟨z,hz,rfl,hd3⟩;have HD3:=hide (HD2.out.trans hd3);clear hd3 HD2;go_wp2_with fail
  refine (zcc w0 w3 c a len cap HO.out hlen HD3.out.cur).mono ?_;rintro e w4 ⟨v,hv,rfl,hd4⟩;have HD4:=hide (HD3.out.trans hd4);clear hd4 HD3;go_wp2;go_ret;exact ⟨(x * 16777216+y * 65536+z * 256+v) % n,Nat.mod_lt _ hn,zfc (by rw [Int.natCast_emod];rfl),HD4.out⟩
theorem zjt (w0 w:World)(c:Nat)(a:Option Addr)(len cap:Nat)(n:Nat)(hcode:zbg w0 a len)(hlen:len<=1048576)(hcur:Cur 74 w0 w c a len cap)(hn:0 < n)(hn1:n<=4294967296) :
  Calls Tryz.prog 57 #[.pointer (some ⟨c,0,none⟩),.int .i64 n] w fun e w'=>∃ x:Nat,e=.returned (.bool (x == 0))/\Drew w0 w w' c a len cap:=by
 have HC:=hide hcur;have HO:=hide hcode;clear hcur hcode;go_enter Tryz.func57,Tryz.ntmps57
 go_wp2_with fail
 refine (zax w0 w c a len cap n HO.out hlen HC.out hn hn1).mono ?_;rintro e w1 ⟨x,hx,rfl,hd⟩;have HD:=hide hd;clear hd;go_wp2;go_ret;exact ⟨x,by rw [show ((x:Int) == 0)=(x == 0) by rw [Bool.eq_iff_iff];simp];rfl,HD.out⟩
theorem dNew_any (w:World)(a:Option Addr)(len cap:Nat)(hcode:zbg w a len)(hlen:len<=1048576) :
  Calls Tryz.prog 14 #[.slice a len cap] w fun e w'=>e=.returned (.pointer (some ⟨w.heap.size,0,none⟩))/\Cur 74 w w' w.heap.size a len cap/\w.heap.size < w'.heap.size:=by
 have HO:=hide hcode;have a30:=fun n=>and30 n;clear hcode;go_enter Tryz.func14,Tryz.ntmps14
 go_wp2
 go_loop [3,4] (fun x i=>∃ (j:Nat) (h:Int),j<=len/\i=.int .i64 j/\x=.int .i64 h/\0<=h/\h < 1073741824) (fun _ i=>len - (intOf i).toNat)
 case atStart=>exact ⟨0,_,Nat.zero_le _,rfl,rfl,by omega,by omega⟩
 case round =>
  obtain ⟨j,h,hj,rfl,rfl,h0,h1⟩:=hrel;by_cases hlt:j < len
  ·by_cases h4:j < 4000
   ·obtain ⟨b,off,z,rfl,hb,hz,hz0,hz1⟩:=HO.out j hlt;have i0:(0:Int)<=(j:Int):=by omega
    have i1:(j:Int) < (len:Int):=by omega
    go_wp2
    go_round
    case rel=>exact ⟨j+1,_,by omega,by go_num,rfl,by omega,by omega⟩
    case measure=>simp [intOf];omega
   ·exact cQ116
  ·exact cQ116
theorem zbp {w0 w:World}{c len cap:Nat}{a:Option Addr}(h:Cur 74 w0 w c a len cap)(hc:c < w.heap.size)(o:Obj):Cur 74 w0 (w.alloc o) c a len cap :=
 ⟨h.1,h.2.1.alloc (by have:=h.2.1.size;omega) _,by obtain ⟨i,x,hb,hi⟩:=h.2.2;exact ⟨i,x,by rw [← hb];exact Below.heap_alloc _ _ _ hc,hi⟩⟩
theorem Drew.alloc {w0 w w':World}{c len cap:Nat}{a:Option Addr}(h:Drew w0 w w' c a len cap)(hc:c < w.heap.size)(o:Obj):Drew w0 w (w'.alloc o) c a len cap :=
 ⟨zbp h.1 (by have:=h.2.size;omega) o,zad h.2 (World.grownBy_alloc _ _ _)⟩
theorem zh9 {w w':World}{a:Option Addr}{len:Nat}(h:zbg w a len)(hb:Below w.heap.size w w'):zbg w' a len:=by
 intro j hj;obtain ⟨b,off,z,h1,h2,h3,h4⟩:=h j hj;exact ⟨b,off,z,h1,by have:=hb.size;omega,(hb.cell (p:=⟨b,off+j,none⟩) h2).trans h3,h4⟩
theorem zju (w0 w:World)(c g:Nat)(a:Option Addr)(len cap:Nat)(xs:List Int)(hcode:zbg w0 a len)(hlen:len<=1048576)(hcur:Cur 74 w0 w c a len cap)(hg:AtC w g 3 (ic xs).toArray)(hne:c≠g)(hx0:0 < xs.length)(hx1:xs.length<=256) :
  Calls Tryz.prog 54 #[.pointer (some ⟨c,0,none⟩),.slice (some ⟨g,0,none⟩) xs.length xs.length] w fun e w'=>∃ z:Int,z∈xs/\e=.returned (.int .i64 z)/\Drew w0 w w' c a len cap:=by
 have HC:=hide hcur;have HO:=hide hcode;have HG:=hide hg;clear hcur hcode hg;go_enter Tryz.func54,Tryz.ntmps54
 go_wp2_with fail
 refine (zax w0 w c a len cap xs.length HO.out hlen HC.out hx0 (by omega)).mono ?_;rintro e w1 ⟨x,hx,rfl,hd⟩;have HD:=hide hd;obtain ⟨z,hz⟩:∃ z,xs[x]=z:=⟨_,rfl⟩
 have hmem:z∈xs:=by rw [← hz];exact List.getElem_mem _
 have hcell:w1.cell? ⟨g,x,none⟩=some (.int .i64 z):=(HG.out.grown hd.2 (by simpa using hne)).at_ x _ (by simp [ic,hx,hz]);have HM:=hide hmem;clear hd hz hmem;go_wp2;go_ret;exact ⟨z,HM.out,rfl,HD.out⟩
theorem zga (w0 w:World)(c g:Nat)(a:Option Addr)(len cap:Nat)(xs:List ByteArray)(hcode:zbg w0 a len)(hlen:len<=1048576)(hcur:Cur 74 w0 w c a len cap)(hg:AtC w g 9 (stc xs).toArray)(hne:c≠g)(hx0:0 < xs.length)(hx1:xs.length<=256) :
  Calls Tryz.prog 56 #[.pointer (some ⟨c,0,none⟩),.slice (some ⟨g,0,none⟩) xs.length xs.length] w fun e w'=>∃ z:ByteArray,z∈xs/\e=.returned (.string z)/\Drew w0 w w' c a len cap:=by
 have HC:=hide hcur;have HO:=hide hcode;have HG:=hide hg;clear hcur hcode hg;go_enter Tryz.func56,Tryz.ntmps56
 go_wp2_with fail
 refine (zax w0 w c a len cap xs.length HO.out hlen HC.out hx0 (by omega)).mono ?_;rintro e w1 ⟨x,hx,rfl,hd⟩;have HD:=hide hd;obtain ⟨z,hz⟩:∃ z,xs[x]=z:=⟨_,rfl⟩
 have hmem:z∈xs:=by rw [← hz];exact List.getElem_mem _
 have hcell:w1.cell? ⟨g,x,none⟩=some (.string z):=(HG.out.grown hd.2 (by simpa using hne)).at_ x _ (by simp [stc,hx,hz]);have HM:=hide hmem;clear hd hz hmem;go_wp2;go_ret;exact ⟨z,HM.out,rfl,HD.out⟩
def nmS:List ByteArray:=[⟨#[97]⟩,⟨#[98]⟩,⟨#[99]⟩,⟨#[100,100]⟩,⟨#[101,49]⟩]
theorem nmS_size:∀ z∈nmS,z.size<=2:=by decide
theorem name_any (w0 w:World)(c:Nat)(a:Option Addr)(len cap:Nat)(hcode:zbg w0 a len)(hlen:len<=1048576)(hcur:Cur 74 w0 w c a len cap)(hc:c < w.heap.size) :
  Calls Tryz.prog 55 #[.pointer (some ⟨c,0,none⟩)] w fun e w'=>∃ z:ByteArray,z.size<=2/\e=.returned (.string z)/\Drew w0 w w' c a len cap:=by
 obtain ⟨W1,hW1⟩:∃ W1,w.alloc (.cells #[.string ⟨#[97]⟩,.string ⟨#[98]⟩,.string ⟨#[99]⟩,.string ⟨#[100,100]⟩,.string ⟨#[101,49]⟩] 9)=W1:=⟨_,rfl⟩
 have HC:Hid (Cur 74 w0 W1 c a len cap/\AtC W1 w.heap.size 9 (stc nmS).toArray/\w.grownBy W1 (some c)):=by
  rw [← hW1];exact ⟨zbp hcur hc _,AtC.new w 9 _,World.grownBy_alloc _ _ _⟩
 have HO:=hide hcode;have hne:c≠w.heap.size:=by omega
 clear hcur hcode;go_enter Tryz.func55,Tryz.ntmps55
 go_wp2_with fail
 refine (zga w0 W1 c w.heap.size a len cap nmS HO.out hlen HC.out.1 HC.out.2.1 hne (by decide) (by decide)).mono ?_;rintro e w1 ⟨z,hz,rfl,hd⟩;have HD:Hid (z.size<=2/\Drew w0 w w1 c a len cap):=⟨nmS_size z hz,hd.1,zad HC.out.2.2 hd.2⟩
 clear hd hz hW1;go_wp2;go_ret;exact ⟨z,HD.out.1,rfl,HD.out.2⟩
namespace Kit
def SzB (L:Nat) (l:List ByteArray):Prop:=∀ s∈l,s.size<=L
theorem SzB.nil (L:Nat):SzB L []:=fun s hs=>by simp at hs
theorem SzB.app {L:Nat}{l:List ByteArray}(h:SzB L l){x:ByteArray}(hx:x.size<=L):SzB L (l ++ [x]):=fun y hy=>(List.mem_append.mp hy).elim (h y) (fun e=>by simp at e;subst e;exact hx)
theorem ROwns.lit1 (w:World)(base:Nat)(e:TypeId)(v:Value)(hb:base<=w.heap.size):ROwns (w.alloc (.cells #[v] e)) base e (.slice (some ⟨w.heap.size,0,none⟩) 1 1) [v]:=World.ownsRow_lit (base:=base) (e:=e) (size:=1) w #[v] 1 hb (by decide) (by simp)
structure Nx (w0 w wr:World) (c:Nat) (a:Option Addr) (len cap:Nat) (WD E:Array Value) (be:Nat) (fv dv av:Value) (fl dl al:List ByteArray):Prop where
 cur:Cur 74 w0 wr c a len cap
 hc:c < w.heap.size
 gr:w.grownBy wr (some c)
 bx:AtC wr w.heap.size 89 WD
 rs:AtC wr (w.heap.size+1) 94 #[.int .i64 0,.string ⟨#[]⟩,.string ⟨#[]⟩,.int .i64 0,.string ⟨#[]⟩]
 ev:AtC wr be 94 E
 f:ROwns wr (w.heap.size+1+1) 9 fv (stc fl)
 d:ROwns wr (w.heap.size+1+1) 9 dv (stc dl)
 l:ROwns wr (w.heap.size+1+1) 9 av (stc al)
 nf:∀ k,fv.ownBlock=some k->k≠be/\dv.ownBlock≠some k/\av.ownBlock≠some k
 nd:∀ k,dv.ownBlock=some k->k≠be/\av.ownBlock≠some k
 na:∀ k,av.ownBlock=some k->k≠be
 hb:w.heap.size+1+1<=be
namespace Nx
variable {w0 w wr wr' : World} {c : Nat} {a : Option Addr} {len cap : Nat} {WD E : Array Value} {be : Nat} {fv dv av : Value} {fl dl al : List ByteArray}
theorem size (h:Nx w0 w wr c a len cap WD E be fv dv av fl dl al):w.heap.size<=wr.heap.size:=h.gr.size
theorem below (h:Nx w0 w wr c a len cap WD E be fv dv av fl dl al)(hb:Below wr.heap.size wr wr'):Nx w0 w wr' c a len cap WD E be fv dv av fl dl al:=by
 have z:=h.gr.size;have hcc:=h.hc;obtain ⟨k1,k2,i,x,k3,k4⟩:=h.cur;exact ⟨⟨k1,k2.trans (hb.mono k2.size),i,x,(hb.block c (by omega)).trans k3,k4⟩,h.hc,zad h.gr (zam hb _),h.bx.over hb,h.rs.over hb,h.ev.over hb,h.f.below hb nR,h.d.below hb nR,h.l.below hb nR,h.nf,h.nd,h.na,h.hb⟩
theorem drew (h:Nx w0 w wr c a len cap WD E be fv dv av fl dl al)(hd:Drew w0 wr wr' c a len cap):Nx w0 w wr' c a len cap WD E be fv dv av fl dl al:=by
 have hcc:=h.hc;have hbb:=h.hb;refine ⟨hd.1,h.hc,zad h.gr hd.2,h.bx.grown hd.2 (by simp;omega),h.rs.grown hd.2 (by simp;omega),h.ev.grown hd.2 (by simp;omega),h.f.grown hd.2 (fun k hk=>?_),h.d.grown hd.2 (fun k hk=>?_),h.l.grown hd.2 (fun k hk=>?_),h.nf,h.nd,h.na,h.hb⟩
 ·have:=(h.f.lt k hk).1;simp;omega
 ·have:=(h.d.lt k hk).1;simp;omega
 ·have:=(h.l.lt k hk).1;simp;omega
theorem turnG (h:Nx w0 w wr c a len cap WD E be fv dv av fl dl al){row:Option Nat}(hg:wr.grownBy wr' row)(hr:∀ k,row=some k->w.heap.size+1+1<=k):Cur 74 w0 wr' c a len cap/\w.grownBy wr' (some c)/\AtC wr' w.heap.size 89 WD/\AtC wr' (w.heap.size+1) 94 #[.int .i64 0,.string ⟨#[]⟩,.string ⟨#[]⟩,.int .i64 0,.string ⟨#[]⟩]:=by
 have hcc:=h.hc;have z:=h.gr.size;obtain ⟨k1,k2,i,x,k3,k4⟩:=h.cur;have hn:∀ k,k < w.heap.size+1+1->row≠some k:=fun k hk e=>by have:=hr k e;omega
 have hs0:=k2.size;refine ⟨⟨k1,k2.grown hg hs0 (fun k hk=>by have:=hr k hk;omega),i,x,(hg.block c (by omega) (fun e=>hn c (by omega) e.symm)).trans k3,k4⟩,⟨hg.os.trans h.gr.os,hg.tape.trans h.gr.tape,hg.output.trans h.gr.output,Nat.le_trans z hg.size,fun k hk hne=>(hg.block k (by omega) (fun e=>hn k (by omega) e.symm)).trans (h.gr.block k hk hne)⟩,h.bx.grown hg (hn _ (by omega)),h.rs.grown hg (hn _ (by omega))⟩
theorem setE (h:Nx w0 w wr c a len cap WD E be fv dv av fl dl al)(i:Nat)(x:Value):Nx w0 w (wr.setCell ⟨be,i,none⟩ x) c a len cap WD (E.setIfInBounds i x) be fv dv av fl dl al:=by
 have hbb:=h.hb;have hg:wr.grownBy (wr.setCell ⟨be,i,none⟩ x) (some be):=⟨rfl,rfl,rfl,by simp,fun k _ hk=>heap_setCell_other wr ⟨be,i,none⟩ k _ (fun e=>hk (by simp [e]))⟩
 obtain ⟨t1,t2,t3,t4⟩:=h.turnG hg (fun k hk=>by simp at hk;omega);exact ⟨t1,h.hc,t2,t3,t4,h.ev.set i x,h.f.grown hg (fun k hk e=>by simp at e;exact (h.nf k hk).1 e.symm),h.d.grown hg (fun k hk e=>by simp at e;exact (h.nd k hk).1 e.symm),h.l.grown hg (fun k hk e=>by simp at e;exact h.na k hk e.symm),h.nf,h.nd,h.na,h.hb⟩
theorem appF (h:Nx w0 w wr c a len cap WD E be fv dv av fl dl al){v:Value}{l:List ByteArray}(ho:ROwns wr' (w.heap.size+1+1) 9 v (stc l))(hg:wr.grownBy wr' fv.ownBlock)(hv:∀ k,v.ownBlock=some k->fv.ownBlock=some k\/wr.heap.size<=k):Nx w0 w wr' c a len cap WD E be v dv av l dl al:=by
 obtain ⟨t1,t2,t3,t4⟩:=h.turnG hg (fun k hk=>(h.f.lt k hk).1);refine ⟨t1,h.hc,t2,t3,t4,h.ev.grown hg (fun e=>(h.nf _ e).1 rfl),ho,h.d.grown hg (fun k hk e=>(h.nf k e).2.1 hk),h.l.grown hg (fun k hk e=>(h.nf k e).2.2 hk),fun k hk=>(hv k hk).elim (h.nf k) (fun e=>⟨fun q=>?_,fun q=>?_,fun q=>?_⟩),h.nd,h.na,h.hb⟩
 ·have:=h.ev.lt;omega
 ·have:=(h.d.lt k q).2;omega
 ·have:=(h.l.lt k q).2;omega
theorem appD (h:Nx w0 w wr c a len cap WD E be fv dv av fl dl al){v:Value}{l:List ByteArray}(ho:ROwns wr' (w.heap.size+1+1) 9 v (stc l))(hg:wr.grownBy wr' dv.ownBlock)(hv:∀ k,v.ownBlock=some k->dv.ownBlock=some k\/wr.heap.size<=k):Nx w0 w wr' c a len cap WD E be fv v av fl l al:=by
 obtain ⟨t1,t2,t3,t4⟩:=h.turnG hg (fun k hk=>(h.d.lt k hk).1);refine ⟨t1,h.hc,t2,t3,t4,h.ev.grown hg (fun e=>(h.nd _ e).1 rfl),h.f.grown hg (fun k hk e=>(h.nf k hk).2.1 e),ho,h.l.grown hg (fun k hk e=>(h.nd k e).2 hk),fun k hk=>⟨(h.nf k hk).1,fun q=>(hv k q).elim (h.nf k hk).2.1 (fun e=>?_),(h.nf k hk).2.2⟩,fun k hk=>(hv k hk).elim (h.nd k) (fun e=>⟨fun q=>?_,fun q=>?_⟩),h.na,h.hb⟩
 ·have:=(h.f.lt k hk).2;omega
 ·have:=h.ev.lt;omega
 ·have:=(h.l.lt k q).2;omega
theorem appA (h:Nx w0 w wr c a len cap WD E be fv dv av fl dl al){v:Value}{l:List ByteArray}(ho:ROwns wr' (w.heap.size+1+1) 9 v (stc l))(hg:wr.grownBy wr' av.ownBlock)(hv:∀ k,v.ownBlock=some k->av.ownBlock=some k\/wr.heap.size<=k):Nx w0 w wr' c a len cap WD E be fv dv v fl dl l:=by
 obtain ⟨t1,t2,t3,t4⟩:=h.turnG hg (fun k hk=>(h.l.lt k hk).1);refine ⟨t1,h.hc,t2,t3,t4,h.ev.grown hg (fun e=>h.na _ e rfl),h.f.grown hg (fun k hk e=>(h.nf k hk).2.2 e),h.d.grown hg (fun k hk e=>(h.nd k hk).2 e),ho,fun k hk=>⟨(h.nf k hk).1,(h.nf k hk).2.1,fun q=>(hv k q).elim (h.nf k hk).2.2 (fun e=>?_)⟩,fun k hk=>⟨(h.nd k hk).1,fun q=>(hv k q).elim (h.nd k hk).2 (fun e=>?_)⟩,fun k hk=>(hv k hk).elim (h.na k) (fun e q=>?_),h.hb⟩
 ·have:=(h.f.lt k hk).2;omega
 ·have:=(h.d.lt k hk).2;omega
 ·have:=h.ev.lt;omega
end Nx
end Kit
theorem Kit.Nx.ret {w0 w wr:World}{c:Nat}{a:Option Addr}{len cap:Nat}{WD E:Array Value}{be:Nat}{fv dv av:Value}{fl dl al:List ByteArray}(h:Nx w0 w wr c a len cap WD E be fv dv av fl dl al)(x0 x1 x2 x3 x4:Value) :
  Drew w0 w (((((wr.setCell ⟨w.heap.size+1,0,none⟩ x0).setCell ⟨w.heap.size+1,1,none⟩ x1).setCell ⟨w.heap.size+1,2,none⟩ x2).setCell ⟨w.heap.size+1,3,none⟩ x3).setCell ⟨w.heap.size+1,4,none⟩ x4) c a len cap:=by
 have hcc:=h.hc;have step:∀ (W:World) (i:Nat) (x:Value),Drew w0 w W c a len cap->Drew w0 w (W.setCell ⟨w.heap.size+1,i,none⟩ x) c a len cap:=fun W i x hd=>by
  obtain ⟨⟨k1,k2,j,y,k3,k4⟩,hg⟩:=hd;have ho:∀ k,k≠w.heap.size+1->(W.setCell ⟨w.heap.size+1,i,none⟩ x).heap[k]?=W.heap[k]?:=fun k hk=>heap_setCell_other W ⟨w.heap.size+1,i,none⟩ k _ hk;have hz:w0.heap.size<=w.heap.size+1:=by omega
  exact ⟨⟨k1,k2.setCell (p:=⟨w.heap.size+1,i,none⟩) hz _,j,y,(ho c (by omega)).trans k3,k4⟩,⟨hg.os,hg.tape,hg.output,Nat.le_trans hg.size (by simp),fun k hk hn=>(ho k (by omega)).trans (hg.block k hk hn)⟩⟩
 exact step _ _ _ (step _ _ _ (step _ _ _ (step _ _ _ (step _ _ _ ⟨h.cur,h.gr⟩))))
def EvR (L:Nat) (e:Ending):Prop:=∃ (kd:Int) (p q:ByteArray) (at_:Int) (tx:ByteArray),e=.returned (.agg #[.int .i64 kd,.string p,.string q,.int .i64 at_,.string tx])/\1<=kd/\kd<=7/\p.size<=L+3/\q.size<=L+3/\tx.size<=16
def zjv:List Int:=[1,1,1,2,2,3,3,3,4,4,5,5,6,6,6,6,6,6,6,7]
theorem zjw:∀ z∈zjv,1<=z/\z<=7:=by decide
def txS:List ByteArray:=[⟨#[]⟩,⟨#[120]⟩,⟨#[104,101,108,108,111]⟩,⟨#[48,49,50,51,52,53,54,55,56,57,97,98,99,100,101,102]⟩]
theorem txS_size:∀ z∈txS,z.size<=16:=by decide
theorem next_any (L:Nat)(w0:World)(c:Nat)(a:Option Addr)(len cap:Nat)(m:MD)(ns:List Nd)(a1 a2 a3 a4 a5 a6 ta ma ka pa:Option Addr)(c1 c2 c3 c4 c5 c6 tl tc mc kl kc pl pc:Nat)(B:Nat)(w:World)(hcode:zbg w0 a len)(hlen:len<=1048576)(hcur:Cur 74 w0 w c a len cap)(hc:c < w.heap.size)
  (hn:NdO w B (.slice ma ns.length mc) ns) (hcB:c < B) (hf:ROwns w 0 4 (.slice a5 m.fs.length c5) (fc m.fs)) (hfc:∀ k,(Value.slice a5 m.fs.length c5).ownBlock=some k->k≠c) (hf21:m.fs.length=21) (hnl:ns.length<=900) (hL:NdB L ns) (hL6:L<=1000000) :
  Calls Tryz.prog 40 #[.pointer (some ⟨c,0,none⟩),.agg #[.slice a1 m.xs.length c1,.slice a2 m.ys.length c2,.slice a3 m.is.length c3,.slice a4 m.bs.length c4,.slice a5 m.fs.length c5,.slice a6 m.ds.length c6,.int .i64 m.nx,.slice ta tl tc,.slice ma ns.length mc,.slice ka kl kc,.slice pa pl pc]] w fun e w'=>EvR L e/\Drew w0 w w' c a len cap:=by
 obtain ⟨W1,hW1⟩:∃ W1,(((w.alloc (.cells #[.slice a1 m.xs.length c1,.slice a2 m.ys.length c2,.slice a3 m.is.length c3,.slice a4 m.bs.length c4,.slice a5 m.fs.length c5,.slice a6 m.ds.length c6,.int .i64 m.nx,.slice ta tl tc,.slice ma ns.length mc,.slice ka kl kc,.slice pa pl pc] 89)).alloc (.cells #[.int .i64 0,.string ⟨#[]⟩,.string ⟨#[]⟩,.int .i64 0,.string ⟨#[]⟩] 94)).alloc (.cells #[.int .i64 1,.int .i64 1,.int .i64 1,.int .i64 2,.int .i64 2,.int .i64 3,.int .i64 3,.int .i64 3,.int .i64 4,.int .i64 4,.int .i64 5,.int .i64 5,.int .i64 6,.int .i64 6,.int .i64 6,.int .i64 6,.int .i64 6,.int .i64 6,.int .i64 6,.int .i64 7] 3))=W1:=⟨_,rfl⟩
 have HW1:Hid (Cur 74 w0 W1 c a len cap/\AtC W1 (w.heap.size+1+1) 3 (ic zjv).toArray/\AtC W1 w.heap.size 89 #[.slice a1 m.xs.length c1,.slice a2 m.ys.length c2,.slice a3 m.is.length c3,.slice a4 m.bs.length c4,.slice a5 m.fs.length c5,.slice a6 m.ds.length c6,.int .i64 m.nx,.slice ta tl tc,.slice ma ns.length mc,.slice ka kl kc,.slice pa pl pc]/\AtC W1 (w.heap.size+1) 94 #[.int .i64 0,.string ⟨#[]⟩,.string ⟨#[]⟩,.int .i64 0,.string ⟨#[]⟩]/\w.grownBy W1 (some c)):=by
  rw [← hW1];have k2:=(AtC.new (w.alloc (.cells #[.slice a1 m.xs.length c1,.slice a2 m.ys.length c2,.slice a3 m.is.length c3,.slice a4 m.bs.length c4,.slice a5 m.fs.length c5,.slice a6 m.ds.length c6,.int .i64 m.nx,.slice ta tl tc,.slice ma ns.length mc,.slice ka kl kc,.slice pa pl pc] 89)) 94 #[.int .i64 0,.string ⟨#[]⟩,.string ⟨#[]⟩,.int .i64 0,.string ⟨#[]⟩]).alloc (.cells #[.int .i64 1,.int .i64 1,.int .i64 1,.int .i64 2,.int .i64 2,.int .i64 3,.int .i64 3,.int .i64 3,.int .i64 4,.int .i64 4,.int .i64 5,.int .i64 5,.int .i64 6,.int .i64 6,.int .i64 6,.int .i64 6,.int .i64 6,.int .i64 6,.int .i64 6,.int .i64 7] 3);have k3:=AtC.new ((w.alloc (.cells #[.slice a1 m.xs.length c1,.slice a2 m.ys.length c2,.slice a3 m.is.length c3,.slice a4 m.bs.length c4,.slice a5 m.fs.length c5,.slice a6 m.ds.length c6,.int .i64 m.nx,.slice ta tl tc,.slice ma ns.length mc,.slice ka kl kc,.slice pa pl pc] 89)).alloc (.cells #[.int .i64 0,.string ⟨#[]⟩,.string ⟨#[]⟩,.int .i64 0,.string ⟨#[]⟩] 94)) 3 #[.int .i64 1,.int .i64 1,.int .i64 1,.int .i64 2,.int .i64 2,.int .i64 3,.int .i64 3,.int .i64 3,.int .i64 4,.int .i64 4,.int .i64 5,.int .i64 5,.int .i64 6,.int .i64 6,.int .i64 6,.int .i64 6,.int .i64 6,.int .i64 6,.int .i64 6,.int .i64 7];have e2:(w.alloc (.cells #[.slice a1 m.xs.length c1,.slice a2 m.ys.length c2,.slice a3 m.is.length c3,.slice a4 m.bs.length c4,.slice a5 m.fs.length c5,.slice a6 m.ds.length c6,.int .i64 m.nx,.slice ta tl tc,.slice ma ns.length mc,.slice ka kl kc,.slice pa pl pc] 89)).heap.size=w.heap.size+1:=by simp
  have e3:((w.alloc (.cells #[.slice a1 m.xs.length c1,.slice a2 m.ys.length c2,.slice a3 m.is.length c3,.slice a4 m.bs.length c4,.slice a5 m.fs.length c5,.slice a6 m.ds.length c6,.int .i64 m.nx,.slice ta tl tc,.slice ma ns.length mc,.slice ka kl kc,.slice pa pl pc] 89)).alloc (.cells #[.int .i64 0,.string ⟨#[]⟩,.string ⟨#[]⟩,.int .i64 0,.string ⟨#[]⟩] 94)).heap.size=w.heap.size+1+1:=by simp
  rw [e2] at k2;rw [e3] at k3;exact ⟨zbp (zbp (zbp hcur hc _) (by simp;omega) _) (by simp;omega) _,k3,((AtC.new w 89 _).alloc _).alloc _,k2,zad (zad (World.grownBy_alloc _ _ _) (World.grownBy_alloc _ _ _)) (World.grownBy_alloc _ _ _)⟩
 have HO:=hide hcode;have hne:c≠w.heap.size+1+1:=by omega
 have HN:Hid (∀ wr,w.grownBy wr (some c)->NdO wr B (.slice ma ns.length mc) ns/\ROwns wr 0 4 (.slice a5 m.fs.length c5) (fc m.fs)):=fun wr hg=>by
  have n2:NdO wr B (.slice ma ns.length mc) ns:=hn.of_heap fun k hk=>by
   have:=hn.lt k hk;exact hg.block k this.2 (by simp;omega)
  exact ⟨n2,hf.of_heap fun k hk=>hg.block k (hf.lt k hk).2 (by simp;exact hfc k hk)⟩
 have HNB:=hide hL;have HF21:=hide hf21;clear hcode hcur hn hf hfc hL hf21;go_enter Tryz.func40,Tryz.ntmps40
 go_wp2_with fail
 refine (zju w0 W1 c (w.heap.size+1+1) a len cap zjv HO.out hlen HW1.out.1 HW1.out.2.1 hne (by decide) (by decide)).mono ?_;rintro e w1 ⟨kd,hkm,rfl,hd⟩;have hkr:=zjw kd hkm;have HKR:=hide hkr;obtain ⟨be,hbe⟩:∃ be,w1.heap.size=be:=⟨_,rfl⟩
 obtain ⟨W5,hW5⟩:∃ W5,((((w1.alloc (.cells #[.int .i64 kd,.string ⟨#[]⟩,.string ⟨#[]⟩,.int .i64 0,.string ⟨#[]⟩] 94)).alloc (.cells #[] 9)).alloc (.cells #[.string ⟨#[]⟩] 9)).alloc (.cells #[] 9))=W5:=⟨_,rfl⟩
 have HX5:Hid (Nx w0 w W5 c a len cap #[.slice a1 m.xs.length c1,.slice a2 m.ys.length c2,.slice a3 m.is.length c3,.slice a4 m.bs.length c4,.slice a5 m.fs.length c5,.slice a6 m.ds.length c6,.int .i64 m.nx,.slice ta tl tc,.slice ma ns.length mc,.slice ka kl kc,.slice pa pl pc] #[.int .i64 kd,.string ⟨#[]⟩,.string ⟨#[]⟩,.int .i64 0,.string ⟨#[]⟩] be (.slice (some ⟨be+1,0,none⟩) 0 0) (.slice (some ⟨be+1+1,0,none⟩) 1 1) (.slice (some ⟨be+1+1+1,0,none⟩) 0 0) [] [⟨#[]⟩] []):=by
  obtain ⟨q1,q2,q3,q4,q5⟩:=HW1.out;have g1:=zad q5 hd.2;have z1:w.heap.size+1+1 < w1.heap.size:=by have:=q2.lt;have:=hd.2.size;omega
  rw [← hW5,← hbe];have hcw:c < w1.heap.size:=by omega
  have b1:=(Below.refl _ w1).alloc nR (.cells #[.int .i64 kd,.string ⟨#[]⟩,.string ⟨#[]⟩,.int .i64 0,.string ⟨#[]⟩] 94);have e1:(w1.alloc (.cells #[.int .i64 kd,.string ⟨#[]⟩,.string ⟨#[]⟩,.int .i64 0,.string ⟨#[]⟩] 94)).heap.size=w1.heap.size+1:=by simp
  have e2:((w1.alloc (.cells #[.int .i64 kd,.string ⟨#[]⟩,.string ⟨#[]⟩,.int .i64 0,.string ⟨#[]⟩] 94)).alloc (.cells #[] 9)).heap.size=w1.heap.size+1+1:=by simp
  have e3:(((w1.alloc (.cells #[.int .i64 kd,.string ⟨#[]⟩,.string ⟨#[]⟩,.int .i64 0,.string ⟨#[]⟩] 94)).alloc (.cells #[] 9)).alloc (.cells #[.string ⟨#[]⟩] 9)).heap.size=w1.heap.size+1+1+1:=by simp
  have f:=ROwns.lit0 (w1.alloc (.cells #[.int .i64 kd,.string ⟨#[]⟩,.string ⟨#[]⟩,.int .i64 0,.string ⟨#[]⟩] 94)) (w.heap.size+1+1) 9 (by simp;omega);have d:=ROwns.lit1 ((w1.alloc (.cells #[.int .i64 kd,.string ⟨#[]⟩,.string ⟨#[]⟩,.int .i64 0,.string ⟨#[]⟩] 94)).alloc (.cells #[] 9)) (w.heap.size+1+1) 9 (.string ⟨#[]⟩) (by simp;omega);have l:=ROwns.lit0 (((w1.alloc (.cells #[.int .i64 kd,.string ⟨#[]⟩,.string ⟨#[]⟩,.int .i64 0,.string ⟨#[]⟩] 94)).alloc (.cells #[] 9)).alloc (.cells #[.string ⟨#[]⟩] 9)) (w.heap.size+1+1) 9 (by simp;omega);rw [e1] at f;rw [e2] at d;rw [e3] at l;have h1:Below w1.heap.size w1 ((((w1.alloc (.cells #[.int .i64 kd,.string ⟨#[]⟩,.string ⟨#[]⟩,.int .i64 0,.string ⟨#[]⟩] 94)).alloc (.cells #[] 9)).alloc (.cells #[.string ⟨#[]⟩] 9)).alloc (.cells #[] 9)):=((b1.alloc (by simp) _).alloc (by simp;omega) _).alloc (by simp;omega) _;obtain ⟨k1,k2,i,x,k3,k4⟩:=hd.1;refine ⟨⟨k1,k2.trans (h1.mono k2.size),i,x,(h1.block c hcw).trans k3,k4⟩,hc,zad g1 (zam h1 _),(q3.grown hd.2 (by simp;omega)).over h1,(q4.grown hd.2 (by simp;omega)).over h1,(((AtC.new w1 94 _).alloc _).alloc _).alloc _,(f.alloc _).alloc _,d.alloc _,l,?_,?_,?_,by omega⟩
  ·intro k hk;simp [Value.ownBlock] at hk ⊢;omega
  ·intro k hk;simp [Value.ownBlock] at hk ⊢;omega
  ·intro k hk;simp [Value.ownBlock] at hk ⊢;omega
 have x8:=HX5.out.bx.c8;clear hd hkm HW1 hkr;go_wp2_with fail
 clear hW5 hbe hW1 x8;go_loopw [6,7,8,9] (fun xf xd xa i wr=>∃ (fv dv av:Value) (fl dl al:List ByteArray) (n:Nat),fv=xf/\dv=xd/\av=xa/\n<=ns.length/\i=.int .i64 n/\Hid (Nx w0 w wr c a len cap #[.slice a1 m.xs.length c1,.slice a2 m.ys.length c2,.slice a3 m.is.length c3,.slice a4 m.bs.length c4,.slice a5 m.fs.length c5,.slice a6 m.ds.length c6,.int .i64 m.nx,.slice ta tl tc,.slice ma ns.length mc,.slice ka kl kc,.slice pa pl pc] #[.int .i64 kd,.string ⟨#[]⟩,.string ⟨#[]⟩,.int .i64 0,.string ⟨#[]⟩] be fv dv av fl dl al/\fl.length<=n/\dl.length<=n+1/\1<=dl.length/\al.length<=n/\SzB L fl/\SzB L dl/\SzB L al)) (fun _ _ _ i _=>ns.length - (intOf i).toNat)
 case atStart=>exact ⟨_,_,_,[],[⟨#[]⟩],[],0,rfl,rfl,rfl,Nat.zero_le _,rfl,HX5.out,Nat.le_refl _,by decide,by decide,Nat.le_refl _,SzB.nil _,fun s hs=>by simp at hs;subst hs;exact Nat.zero_le _,SzB.nil _⟩
 case round =>
  obtain ⟨fv,dv,av,fl,dl,al,n,e6,e7,e8,hn,rfl,HR⟩:=hrel;subst e6 e7 e8;obtain ⟨wo,hwo⟩:∃ wo,wo=wr:=⟨_,rfl⟩
  subst hwo;clear HX5;have x8:=HR.out.1.bx.c8;have n0:(0:Int)<=(n:Int):=by omega
  by_cases hlt:n < ns.length
  ·have n1:(n:Int) < (ns.length:Int):=by omega
   have n2:n < 900:=by omega
   obtain ⟨g,cap2,e1,p0,p1,-,-,-,hg,-⟩:=(HN.out wo HR.out.1.gr).1.at_ n hlt;simp only [Value.slice.injEq,true_and] at e1;obtain ⟨rfl,rfl⟩:=e1;obtain ⟨xp,hxp⟩:∃ xp,ns[n].1=xp:=⟨_,rfl⟩
   obtain ⟨xb,hxb⟩:∃ xb,ns[n].2.1=xb:=⟨_,rfl⟩
   have HXP:Hid (xp.size<=L):=by have:=HNB.out _ (List.getElem_mem hlt);rw [hxp] at this;exact this
   rw [hxp] at p0;rw [hxb] at p1;have HXX:Hid (ns[n].1=xp/\ns[n].2.1=xb):=⟨hxp,hxb⟩
   clear hxp hxb;have HAL:Hid (Below wo.heap.size wo (wo.alloc (.cells #[.string xp] 9))):=(Below.refl _ wo).alloc nR _;have HT:Hid (ROwns (wo.alloc (.cells #[.string xp] 9)) (w.heap.size+1+1) 9 av (stc al)):=HR.out.1.l.alloc _;have HK2:Hid ((wo.alloc (.cells #[.string xp] 9)).cell? ⟨wo.heap.size,0,none⟩=some (.string xp)):=(AtC.new wo 9 #[.string xp]).cell 0;have HSZ:Hid (w.heap.size+1+1<=(wo.alloc (.cells #[.string xp] 9)).heap.size):=by have:=HR.out.1.rs.lt;show _<=_;simp;omega
   have HTL:Hid ((stc al).length<=100000000000):=by have:=HR.out.2.2.2.2.1;show _<=_;rw [zai];omega
   have HMK:Hid (∀ v12 w12,ROwns w12 (w.heap.size+1+1) 9 v12 (stc al ++ [.string xp])->(wo.alloc (.cells #[.string xp] 9)).grownBy w12 av.ownBlock->(∀ k,v12.ownBlock=some k->av.ownBlock=some k\/(wo.alloc (.cells #[.string xp] 9)).heap.size<=k)->Nx w0 w w12 c a len cap #[.slice a1 m.xs.length c1,.slice a2 m.ys.length c2,.slice a3 m.is.length c3,.slice a4 m.bs.length c4,.slice a5 m.fs.length c5,.slice a6 m.ds.length c6,.int .i64 m.nx,.slice ta tl tc,.slice (some ⟨g,0,none⟩) ns.length mc,.slice ka kl kc,.slice pa pl pc] #[.int .i64 kd,.string ⟨#[]⟩,.string ⟨#[]⟩,.int .i64 0,.string ⟨#[]⟩] be fv dv v12 fl dl (al ++ [xp])):=fun v12 w12 T12 G12 V12=>(HR.out.1.below HAL.out).appA (by rw [za6];exact T12) G12 V12;go_upto_region 9 with (at_builtin;refine wpList_step fun K' hK'=>?_;refine zal _ rfl (.tmp 27) (.tmp 34) 67 rfl (w.heap.size+1+1) 9 Tryz.u67 _ 16 Tryz.i9 rfl (by decide) av _ rfl HT.out HSZ.out wo.heap.size (.string xp) rfl HK2.out rfl HTL.out ?_;intro v12 w12 T12 G12 V12;refine hK' _ _ ?_;have HR12:=hide (HMK.out v12 w12 T12 G12 V12);clear T12 G12 V12 hK')
   clear HT HK2 HSZ HTL HMK HAL p0 p1 x8;have x8:=HR12.out.bx.c8;obtain ⟨g',cap3,e1,p0,p1,-,-,-,-,-⟩:=(HN.out w12 HR12.out.gr).1.at_ n hlt;simp only [Value.slice.injEq,Option.some.injEq,Addr.mk.injEq,and_true,true_and] at e1;obtain ⟨rfl,-⟩:=e1;rw [HXX.out.1] at p0;rw [HXX.out.2] at p1
   cases xb with
   | true =>
    have HT:Hid (ROwns (w12.alloc (.cells #[.string xp] 9)) (w.heap.size+1+1) 9 dv (stc dl)):=HR12.out.d.alloc _;have HK2:Hid ((w12.alloc (.cells #[.string xp] 9)).cell? ⟨w12.heap.size,0,none⟩=some (.string xp)):=(AtC.new w12 9 #[.string xp]).cell 0;have HSZ:Hid (w.heap.size+1+1<=(w12.alloc (.cells #[.string xp] 9)).heap.size):=by have:=HR12.out.rs.lt;show _<=_;simp;omega
    have HTL:Hid ((stc dl).length<=100000000000):=by have:=HR.out.2;show _<=_;rw [zai];omega
    have HMK:Hid (∀ v13 w13,ROwns w13 (w.heap.size+1+1) 9 v13 (stc dl ++ [.string xp])->(w12.alloc (.cells #[.string xp] 9)).grownBy w13 (dv).ownBlock->(∀ k,v13.ownBlock=some k->(dv).ownBlock=some k\/(w12.alloc (.cells #[.string xp] 9)).heap.size<=k)->Nx w0 w w13 c a len cap #[.slice a1 m.xs.length c1,.slice a2 m.ys.length c2,.slice a3 m.is.length c3,.slice a4 m.bs.length c4,.slice a5 m.fs.length c5,.slice a6 m.ds.length c6,.int .i64 m.nx,.slice ta tl tc,.slice (some ⟨g,0,none⟩) ns.length mc,.slice ka kl kc,.slice pa pl pc] #[.int .i64 kd,.string ⟨#[]⟩,.string ⟨#[]⟩,.int .i64 0,.string ⟨#[]⟩] be fv v13 v12 fl (dl ++ [xp]) (al ++ [xp])):=fun v13 w13 T13 G13 V13=>(HR12.out.below ((Below.refl _ w12).alloc nR _)).appD (by rw [za6];exact T13) G13 V13;go_wp2_with (at_builtin;refine wpList_step fun K' hK'=>?_;refine zal _ rfl (.tmp 42) (.tmp 49) 67 rfl (w.heap.size+1+1) 9 Tryz.u67 _ 16 Tryz.i9 rfl (by decide) dv _ rfl HT.out HSZ.out w12.heap.size (.string xp) rfl HK2.out rfl HTL.out ?_;intro v13 w13 T13 G13 V13;refine hK' _ _ ?_;have HR13:=hide (HMK.out v13 w13 T13 G13 V13);clear T13 G13 V13 hK')
    go_roundw
    case rel =>
     obtain ⟨-,q1,q2,q3,q4,q5,q6,q7⟩:=HR.out;exact ⟨fv,v13,v12,fl,dl ++ [xp],al ++ [xp],n+1,rfl,rfl,rfl,by omega,by go_num,HR13.out,by omega,by simp;omega,by simp,by simp;omega,q5,q6.app HXP.out,q7.app HXP.out⟩
    case measure=>simp [intOf];omega
   | false =>
    have HT:Hid (ROwns (w12.alloc (.cells #[.string xp] 9)) (w.heap.size+1+1) 9 fv (stc fl)):=HR12.out.f.alloc _;have HK2:Hid ((w12.alloc (.cells #[.string xp] 9)).cell? ⟨w12.heap.size,0,none⟩=some (.string xp)):=(AtC.new w12 9 #[.string xp]).cell 0;have HSZ:Hid (w.heap.size+1+1<=(w12.alloc (.cells #[.string xp] 9)).heap.size):=by have:=HR12.out.rs.lt;show _<=_;simp;omega
    have HTL:Hid ((stc fl).length<=100000000000):=by have:=HR.out.2;show _<=_;rw [zai];omega
    have HMK:Hid (∀ v13 w13,ROwns w13 (w.heap.size+1+1) 9 v13 (stc fl ++ [.string xp])->(w12.alloc (.cells #[.string xp] 9)).grownBy w13 (fv).ownBlock->(∀ k,v13.ownBlock=some k->(fv).ownBlock=some k\/(w12.alloc (.cells #[.string xp] 9)).heap.size<=k)->Nx w0 w w13 c a len cap #[.slice a1 m.xs.length c1,.slice a2 m.ys.length c2,.slice a3 m.is.length c3,.slice a4 m.bs.length c4,.slice a5 m.fs.length c5,.slice a6 m.ds.length c6,.int .i64 m.nx,.slice ta tl tc,.slice (some ⟨g,0,none⟩) ns.length mc,.slice ka kl kc,.slice pa pl pc] #[.int .i64 kd,.string ⟨#[]⟩,.string ⟨#[]⟩,.int .i64 0,.string ⟨#[]⟩] be v13 dv v12 (fl ++ [xp]) dl (al ++ [xp])):=fun v13 w13 T13 G13 V13=>(HR12.out.below ((Below.refl _ w12).alloc nR _)).appF (by rw [za6];exact T13) G13 V13;go_wp2_with (at_builtin;refine wpList_step fun K' hK'=>?_;refine zal _ rfl (.tmp 51) (.tmp 58) 67 rfl (w.heap.size+1+1) 9 Tryz.u67 _ 16 Tryz.i9 rfl (by decide) fv _ rfl HT.out HSZ.out w12.heap.size (.string xp) rfl HK2.out rfl HTL.out ?_;intro v13 w13 T13 G13 V13;refine hK' _ _ ?_;have HR13:=hide (HMK.out v13 w13 T13 G13 V13);clear T13 G13 V13 hK')
    go_roundw
    case rel =>
     obtain ⟨-,q1,q2,q3,q4,q5,q6,q7⟩:=HR.out;exact ⟨v13,dv,v12,fl ++ [xp],dl,al ++ [xp],n+1,rfl,rfl,rfl,by omega,by go_num,HR13.out,by simp;omega,by omega,q3,by simp;omega,q5.app HXP.out,q6,q7.app HXP.out⟩
    case measure=>simp [intOf];omega
  have n1:¬ ((n:Int) < (ns.length:Int)):=by omega
  obtain ⟨HRN,hfl,hdl,hdl1,hal,hsf,hsd,hsa⟩:=HR.out;have HX:=hide HRN;have HS:=hide (And.intro hsf (And.intro hsd hsa));obtain ⟨da,dc,edv,-⟩:=HRN.d.form;rw [zai] at edv;subst edv;obtain ⟨fa,fcc,efv,-⟩:=HRN.f.form;rw [zai] at efv;subst efv;obtain ⟨la,lc,eav,-⟩:=HRN.l.form;rw [zai] at eav;subst eav;clear HR HRN hsf hsd hsa;have hl3:0 < dl.length/\dl.length<=1000:=⟨by omega,by omega⟩
  go_upto_region 12 with fail
  clear x8;go_cut [10] from 20 to 70 (fun c10 wx=>(∃ fr:ByteArray,c10=.string fr/\fr.size<=L+3)/\Nx w0 w wx c a len cap #[.slice a1 m.xs.length c1,.slice a2 m.ys.length c2,.slice a3 m.is.length c3,.slice a4 m.bs.length c4,.slice a5 m.fs.length c5,.slice a6 m.ds.length c6,.int .i64 m.nx,.slice ta tl tc,.slice ma ns.length mc,.slice ka kl kc,.slice pa pl pc] #[.int .i64 kd,.string ⟨#[]⟩,.string ⟨#[]⟩,.int .i64 0,.string ⟨#[]⟩] be (.slice fa fl.length fcc) (.slice da dl.length dc) (.slice la al.length lc) fl dl al)
  case first =>
   obtain ⟨gd,cd,ed,-,-⟩:=zca HX.out.d 0 hl3.1;simp only [Value.slice.injEq,true_and] at ed;obtain ⟨rfl,rfl⟩:=ed;have HDD:Hid (∀ W,Nx w0 w W c a len cap #[.slice a1 m.xs.length c1,.slice a2 m.ys.length c2,.slice a3 m.is.length c3,.slice a4 m.bs.length c4,.slice a5 m.fs.length c5,.slice a6 m.ds.length c6,.int .i64 m.nx,.slice ta tl tc,.slice ma ns.length mc,.slice ka kl kc,.slice pa pl pc] #[.int .i64 kd,.string ⟨#[]⟩,.string ⟨#[]⟩,.int .i64 0,.string ⟨#[]⟩] be (.slice fa fl.length fcc) (.slice (some ⟨gd,0,none⟩) dl.length dc) (.slice la al.length lc) fl dl al->∀ x:Nat,x < dl.length->W.cell? ⟨gd,x,none⟩=some (.string (dl.getD x ⟨#[]⟩))/\(dl.getD x ⟨#[]⟩).size<=L):=fun W hN x hx=>by
    obtain ⟨gd',cd',e1,k1,-⟩:=zca hN.d x hx;simp only [Value.slice.injEq,Option.some.injEq,Addr.mk.injEq,and_true,true_and] at e1;obtain ⟨rfl,-⟩:=e1;have e:dl.getD x ⟨#[]⟩=dl[x]:=by simp [hx]
    rw [e];exact ⟨k1,HS.out.2.1 _ (List.getElem_mem hx)⟩
   have HXD:Hid (Nx w0 w wo.drew c a len cap #[.slice a1 m.xs.length c1,.slice a2 m.ys.length c2,.slice a3 m.is.length c3,.slice a4 m.bs.length c4,.slice a5 m.fs.length c5,.slice a6 m.ds.length c6,.int .i64 m.nx,.slice ta tl tc,.slice ma ns.length mc,.slice ka kl kc,.slice pa pl pc] #[.int .i64 kd,.string ⟨#[]⟩,.string ⟨#[]⟩,.int .i64 0,.string ⟨#[]⟩] be (.slice fa fl.length fcc) (.slice (some ⟨gd,0,none⟩) dl.length dc) (.slice la al.length lc) fl dl al):=HX.out.below bR.drew;have hd4:dl.length<=4294967296:=by omega
   have HFS:Hid (∀ s z:ByteArray,s.size<=L->z.size<=2->((s ++ (⟨#[47]⟩:ByteArray)) ++ z).size<=L+3):=fun s z h1 h2=>by
    rw [ByteArray.size_append,ByteArray.size_append];have:(⟨#[47]⟩:ByteArray).size=1:=rfl;omega
   have HCW:Hid (∀ W,Nx w0 w W c a len cap #[.slice a1 m.xs.length c1,.slice a2 m.ys.length c2,.slice a3 m.is.length c3,.slice a4 m.bs.length c4,.slice a5 m.fs.length c5,.slice a6 m.ds.length c6,.int .i64 m.nx,.slice ta tl tc,.slice ma ns.length mc,.slice ka kl kc,.slice pa pl pc] #[.int .i64 kd,.string ⟨#[]⟩,.string ⟨#[]⟩,.int .i64 0,.string ⟨#[]⟩] be (.slice fa fl.length fcc) (.slice (some ⟨gd,0,none⟩) dl.length dc) (.slice la al.length lc) fl dl al->c < W.heap.size):=fun W hN=>by have:=hN.size;omega
   go_region_with (first | (go_at_call 38;refine (zax w0 _ c a len cap dl.length HO.out hlen HXD.out.cur hl3.1 hd4).mono ?_;rintro e w13 ⟨x,hx,rfl,hd13⟩;have HX13:=hide (HXD.out.drew hd13);obtain ⟨ks,hsz⟩:=HDD.out w13 HX13.out x hx;obtain ⟨s,hs⟩:∃ s,dl.getD x ⟨#[]⟩=s:=⟨_,rfl⟩;rw [hs] at ks hsz;have HSS:=hide hs;clear hd13 hs;have x0:(0:Int)<=(x:Int):=Int.natCast_nonneg x;have x1:(x:Int) < (dl.length:Int):=Int.ofNat_lt.2 hx;have h3:¬ 9223372036854775807 < s.size+1:=(fun q=>by omega)) | (go_at_call 55;refine (name_any w0 _ c a len cap HO.out hlen HX13.out.cur (HCW.out _ HX13.out)).mono ?_;rintro e w14 ⟨z,hz,rfl,hd14⟩;have HX14:=hide (HX13.out.drew hd14);have ks2:=(HDD.out w14 HX14.out x hx).1;rw [HSS.out] at ks2;clear hd14;have h4:¬ 9223372036854775807 < s.size+1+z.size:=(fun q=>by omega)))
   all_goals (go_wp2_with fail;go_meet;exact ⟨⟨_,rfl,HFS.out s z hsz hz⟩,HX14.out⟩)
  case rest =>
   obtain ⟨⟨fr,rfl,hfr⟩,hx⟩:=hcut;obtain ⟨w2,hw2⟩:∃ w2,w2=wc:=⟨_,rfl⟩
   subst hw2;have HX2:=hide hx;have hbb:=hx.hb;have ne1:¬ be=w.heap.size+1:=by omega
   have ne2:¬ w.heap.size+1=be:=by omega
   clear hbb;have hcw2:c < w2.heap.size:=by have:=hx.size;omega
   clear hx HX;have e0:=HX2.out.ev.c0;have e1:=HX2.out.ev.c1;have e2:=HX2.out.ev.c2;have e3:=HX2.out.ev.c3;have e4:=HX2.out.ev.c4;have f0:=HX2.out.ev.frozen 0;have f1:=HX2.out.ev.frozen 1;have f2:=HX2.out.ev.frozen 2;have f3:=HX2.out.ev.frozen 3;have f4:=HX2.out.ev.frozen 4;have r0:=HX2.out.rs.c0;have r1:=HX2.out.rs.c1;have r2:=HX2.out.rs.c2;have r3:=HX2.out.rs.c3;have r4:=HX2.out.rs.c4;have v0:=HX2.out.rs.frozen 0;have v1:=HX2.out.rs.frozen 1;have v2:=HX2.out.rs.frozen 2;have v3:=HX2.out.rs.frozen 3;have v4:=HX2.out.rs.frozen 4;by_cases h1:kd=1
   ·subst h1;go_wp2;refine bodyPost_ret (v:=.agg #[.int .i64 1,.string fr,.string ⟨#[]⟩,.int .i64 0,.string ⟨#[]⟩]) (by simp [results,go_sem,r0,r1,r2,r3,r4]) rfl ⟨⟨_,_,_,_,_,rfl,by decide,by decide,hfr,by show (0:Nat)<=_;omega,by show (0:Nat)<=16;omega⟩,(HX2.out.setE 1 (.string fr)).ret _ _ _ _ _⟩
   by_cases h2:kd=2
   ·subst h2;go_wp2;refine bodyPost_ret (v:=.agg #[.int .i64 2,.string fr,.string ⟨#[]⟩,.int .i64 0,.string ⟨#[]⟩]) (by simp [results,go_sem,r0,r1,r2,r3,r4]) rfl ⟨⟨_,_,_,_,_,rfl,by decide,by decide,hfr,by show (0:Nat)<=_;omega,by show (0:Nat)<=16;omega⟩,(HX2.out.setE 1 (.string fr)).ret _ _ _ _ _⟩
   by_cases h7:kd=7
   ·subst h7;go_wp2;refine bodyPost_ret (v:=.agg #[.int .i64 7,.string ⟨#[]⟩,.string ⟨#[]⟩,.int .i64 0,.string ⟨#[]⟩]) (by simp [results,go_sem,r0,r1,r2,r3,r4]) rfl ⟨⟨_,_,_,_,_,rfl,by decide,by decide,by show (0:Nat)<=_;omega,by show (0:Nat)<=_;omega,by show (0:Nat)<=16;omega⟩,HX2.out.ret _ _ _ _ _⟩
   by_cases h5:kd=5
   ·subst h5;obtain ⟨W3,hW3⟩:∃ W3,w2.setCell ⟨be,1,none⟩ (.string ⟨#[47,97]⟩)=W3:=⟨_,rfl⟩
    have HX3:Hid (Nx w0 w W3 c a len cap #[.slice a1 m.xs.length c1,.slice a2 m.ys.length c2,.slice a3 m.is.length c3,.slice a4 m.bs.length c4,.slice a5 m.fs.length c5,.slice a6 m.ds.length c6,.int .i64 m.nx,.slice ta tl tc,.slice ma ns.length mc,.slice ka kl kc,.slice pa pl pc] #[.int .i64 5,.string ⟨#[47,97]⟩,.string ⟨#[]⟩,.int .i64 0,.string ⟨#[]⟩] be (.slice fa fl.length fcc) (.slice da dl.length dc) (.slice la al.length lc) fl dl al):=by rw [← hW3];exact HX2.out.setE 1 (.string ⟨#[47,97]⟩)
    go_upto_if 84 with fail
    clear e0 e1 e2 e3 e4 f0 f1 f2 f3 f4 r0 r1 r2 r3 r4 v0 v1 v2 v3 v4 hW3;go_cut [5] from 82 to 92 (fun cx wx=>cx=.pointer (some ⟨be,0,none⟩)/\∃ pp:ByteArray,pp.size<=L+3/\Nx w0 w wx c a len cap #[.slice a1 m.xs.length c1,.slice a2 m.ys.length c2,.slice a3 m.is.length c3,.slice a4 m.bs.length c4,.slice a5 m.fs.length c5,.slice a6 m.ds.length c6,.int .i64 m.nx,.slice ta tl tc,.slice ma ns.length mc,.slice ka kl kc,.slice pa pl pc] #[.int .i64 5,.string pp,.string ⟨#[]⟩,.int .i64 0,.string ⟨#[]⟩] be (.slice fa fl.length fcc) (.slice da dl.length dc) (.slice la al.length lc) fl dl al)
    case first =>
     exact cQ20
    case rest =>
     obtain ⟨rfl,pp,hpp,hx⟩:=hcut;obtain ⟨w4,hw4⟩:∃ w4,w4=wc:=⟨_,rfl⟩
     subst hw4;have HX4:=hide hx;clear hx HX3;have e0:=HX4.out.ev.c0;have e1:=HX4.out.ev.c1;have e2:=HX4.out.ev.c2;have e3:=HX4.out.ev.c3;have e4:=HX4.out.ev.c4;have f0:=HX4.out.ev.frozen 0;have f1:=HX4.out.ev.frozen 1;have f2:=HX4.out.ev.frozen 2;have f3:=HX4.out.ev.frozen 3;have f4:=HX4.out.ev.frozen 4;have r0:=HX4.out.rs.c0;have r1:=HX4.out.rs.c1;have r2:=HX4.out.rs.c2;have r3:=HX4.out.rs.c3;have r4:=HX4.out.rs.c4;have v0:=HX4.out.rs.frozen 0;have v1:=HX4.out.rs.frozen 1;have v2:=HX4.out.rs.frozen 2;have v3:=HX4.out.rs.frozen 3;have v4:=HX4.out.rs.frozen 4;go_wp2;refine bodyPost_ret (v:=.agg #[.int .i64 5,.string pp,.string fr,.int .i64 0,.string ⟨#[]⟩]) (by simp [results,go_sem,r0,r1,r2,r3,r4]) rfl ⟨⟨_,_,_,_,_,rfl,by decide,by decide,hpp,hfr,by show (0:Nat)<=16;omega⟩,(HX4.out.setE 2 (.string fr)).ret _ _ _ _ _⟩
   by_cases h4:kd=4
   ·subst h4;by_cases hz:0 < al.length
    rotate_left
    ·have hz1:¬ (0:Int) < (al.length:Int):=by omega
     go_wp2;refine bodyPost_ret (v:=.agg #[.int .i64 4,.string ⟨#[47,98]⟩,.string ⟨#[]⟩,.int .i64 0,.string ⟨#[]⟩]) (by simp [results,go_sem,r0,r1,r2,r3,r4]) rfl ⟨⟨_,_,_,_,_,rfl,by decide,by decide,by show (2:Nat)<=L+3;omega,by show (0:Nat)<=_;omega,by show (0:Nat)<=16;omega⟩,(HX2.out.setE 1 (.string ⟨#[47,98]⟩)).ret _ _ _ _ _⟩
    have hz1:(0:Int) < (al.length:Int):=by omega
    obtain ⟨W3,hW3⟩:∃ W3,w2.setCell ⟨be,1,none⟩ (.string ⟨#[47,98]⟩)=W3:=⟨_,rfl⟩
    have HX3:Hid (Nx w0 w W3 c a len cap #[.slice a1 m.xs.length c1,.slice a2 m.ys.length c2,.slice a3 m.is.length c3,.slice a4 m.bs.length c4,.slice a5 m.fs.length c5,.slice a6 m.ds.length c6,.int .i64 m.nx,.slice ta tl tc,.slice ma ns.length mc,.slice ka kl kc,.slice pa pl pc] #[.int .i64 4,.string ⟨#[47,98]⟩,.string ⟨#[]⟩,.int .i64 0,.string ⟨#[]⟩] be (.slice fa fl.length fcc) (.slice da dl.length dc) (.slice la al.length lc) fl dl al):=by rw [← hW3];exact HX2.out.setE 1 (.string ⟨#[47,98]⟩)
    obtain ⟨gd,cd,ed,-,-⟩:=zca HX3.out.l 0 hz;simp only [Value.slice.injEq,true_and] at ed;obtain ⟨rfl,rfl⟩:=ed;go_wp2_with fail
    refine (zax w0 W3 c a len cap al.length HO.out hlen HX3.out.cur hz (by omega)).mono ?_;rintro e w13 ⟨x,hx,rfl,hd13⟩;have HX13:=hide (HX3.out.drew hd13);obtain ⟨gd',cd',e1',ks,-⟩:=zca HX13.out.l x hx;simp only [Value.slice.injEq,Option.some.injEq,Addr.mk.injEq,and_true,true_and] at e1';obtain ⟨rfl,-⟩:=e1';have hsz:=HS.out.2.2 _ (List.getElem_mem hx);obtain ⟨s,hs⟩:∃ s,al[x]=s:=⟨_,rfl⟩
    rw [hs] at ks hsz;have x0:(0:Int)<=(x:Int):=by omega
    have x1:(x:Int) < (al.length:Int):=by omega
    clear e0 e1 e2 e3 e4 f0 f1 f2 f3 f4 r0 r1 r2 r3 r4 v0 v1 v2 v3 v4 hd13 hs hW3;have e0:=HX13.out.ev.c0;have e1:=HX13.out.ev.c1;have e2:=HX13.out.ev.c2;have e3:=HX13.out.ev.c3;have e4:=HX13.out.ev.c4;have f0:=HX13.out.ev.frozen 0;have f1:=HX13.out.ev.frozen 1;have f2:=HX13.out.ev.frozen 2;have f3:=HX13.out.ev.frozen 3;have f4:=HX13.out.ev.frozen 4;have r0:=HX13.out.rs.c0;have r1:=HX13.out.rs.c1;have r2:=HX13.out.rs.c2;have r3:=HX13.out.rs.c3;have r4:=HX13.out.rs.c4;have v0:=HX13.out.rs.frozen 0;have v1:=HX13.out.rs.frozen 1;have v2:=HX13.out.rs.frozen 2;have v3:=HX13.out.rs.frozen 3;have v4:=HX13.out.rs.frozen 4;go_wp2;refine bodyPost_ret (v:=.agg #[.int .i64 4,.string s,.string ⟨#[]⟩,.int .i64 0,.string ⟨#[]⟩]) (by simp [results,go_sem,r0,r1,r2,r3,r4]) rfl ⟨⟨_,_,_,_,_,rfl,by decide,by decide,by omega,by show (0:Nat)<=_;omega,by show (0:Nat)<=16;omega⟩,(HX13.out.setE 1 (.string s)).ret _ _ _ _ _⟩
   by_cases h3:kd=3
   ·subst h3;obtain ⟨W3,hW3⟩:∃ W3,w2.setCell ⟨be,1,none⟩ (.string ⟨#[47,97]⟩)=W3:=⟨_,rfl⟩
    have HX3:Hid (Nx w0 w W3 c a len cap #[.slice a1 m.xs.length c1,.slice a2 m.ys.length c2,.slice a3 m.is.length c3,.slice a4 m.bs.length c4,.slice a5 m.fs.length c5,.slice a6 m.ds.length c6,.int .i64 m.nx,.slice ta tl tc,.slice ma ns.length mc,.slice ka kl kc,.slice pa pl pc] #[.int .i64 3,.string ⟨#[47,97]⟩,.string ⟨#[]⟩,.int .i64 0,.string ⟨#[]⟩] be (.slice fa fl.length fcc) (.slice da dl.length dc) (.slice la al.length lc) fl dl al):=by rw [← hW3];exact HX2.out.setE 1 (.string ⟨#[47,97]⟩)
    go_upto_if 84 with fail
    clear e0 e1 e2 e3 e4 f0 f1 f2 f3 f4 r0 r1 r2 r3 r4 v0 v1 v2 v3 v4 hW3;go_cut [5] from 82 to 92 (fun cx wx=>cx=.pointer (some ⟨be,0,none⟩)/\∃ pp:ByteArray,pp.size<=L+3/\Nx w0 w wx c a len cap #[.slice a1 m.xs.length c1,.slice a2 m.ys.length c2,.slice a3 m.is.length c3,.slice a4 m.bs.length c4,.slice a5 m.fs.length c5,.slice a6 m.ds.length c6,.int .i64 m.nx,.slice ta tl tc,.slice ma ns.length mc,.slice ka kl kc,.slice pa pl pc] #[.int .i64 3,.string pp,.string ⟨#[]⟩,.int .i64 0,.string ⟨#[]⟩] be (.slice fa fl.length fcc) (.slice da dl.length dc) (.slice la al.length lc) fl dl al)
    case first =>
     exact cQ20
    case rest =>
     obtain ⟨rfl,pp,hpp,hx⟩:=hcut;obtain ⟨w4,hw4⟩:∃ w4,w4=wc:=⟨_,rfl⟩
     subst hw4;have HX4:=hide hx;clear hx HX3;have e0:=HX4.out.ev.c0;have e1:=HX4.out.ev.c1;have e2:=HX4.out.ev.c2;have e3:=HX4.out.ev.c3;have e4:=HX4.out.ev.c4;have f0:=HX4.out.ev.frozen 0;have f1:=HX4.out.ev.frozen 1;have f2:=HX4.out.ev.frozen 2;have f3:=HX4.out.ev.frozen 3;have f4:=HX4.out.ev.frozen 4;have r0:=HX4.out.rs.c0;have r1:=HX4.out.rs.c1;have r2:=HX4.out.rs.c2;have r3:=HX4.out.rs.c3;have r4:=HX4.out.rs.c4;have v0:=HX4.out.rs.frozen 0;have v1:=HX4.out.rs.frozen 1;have v2:=HX4.out.rs.frozen 2;have v3:=HX4.out.rs.frozen 3;have v4:=HX4.out.rs.frozen 4;obtain ⟨W6,hW6⟩:∃ W6,w4.alloc (.cells #[.string ⟨#[]⟩,.string ⟨#[120]⟩,.string ⟨#[104,101,108,108,111]⟩,.string ⟨#[48,49,50,51,52,53,54,55,56,57,97,98,99,100,101,102]⟩] 9)=W6:=⟨_,rfl⟩
     have HX6:Hid (Nx w0 w W6 c a len cap #[.slice a1 m.xs.length c1,.slice a2 m.ys.length c2,.slice a3 m.is.length c3,.slice a4 m.bs.length c4,.slice a5 m.fs.length c5,.slice a6 m.ds.length c6,.int .i64 m.nx,.slice ta tl tc,.slice ma ns.length mc,.slice ka kl kc,.slice pa pl pc] #[.int .i64 3,.string pp,.string ⟨#[]⟩,.int .i64 0,.string ⟨#[]⟩] be (.slice fa fl.length fcc) (.slice da dl.length dc) (.slice la al.length lc) fl dl al/\AtC W6 w4.heap.size 9 (stc txS).toArray/\c≠w4.heap.size):=by
      rw [← hW6];exact ⟨HX4.out.below ((Below.refl _ w4).alloc nR _),AtC.new w4 9 _,by have:=HX4.out.size;omega⟩
     go_wp2_with fail
     refine (zga w0 W6 c w4.heap.size a len cap txS HO.out hlen HX6.out.1.cur HX6.out.2.1 HX6.out.2.2 (by decide) (by decide)).mono ?_;rintro e w7 ⟨tx,htx,rfl,hd7⟩;have htx2:=txS_size tx htx;have HX7:=hide (HX6.out.1.drew hd7);clear e0 e1 e2 e3 e4 f0 f1 f2 f3 f4 r0 r1 r2 r3 r4 v0 v1 v2 v3 v4 hd7 htx hW6;have e0:=HX7.out.ev.c0;have e1:=HX7.out.ev.c1;have e2:=HX7.out.ev.c2;have e3:=HX7.out.ev.c3;have e4:=HX7.out.ev.c4;have f0:=HX7.out.ev.frozen 0;have f1:=HX7.out.ev.frozen 1;have f2:=HX7.out.ev.frozen 2;have f3:=HX7.out.ev.frozen 3;have f4:=HX7.out.ev.frozen 4;have r0:=HX7.out.rs.c0;have r1:=HX7.out.rs.c1;have r2:=HX7.out.rs.c2;have r3:=HX7.out.rs.c3;have r4:=HX7.out.rs.c4;have v0:=HX7.out.rs.frozen 0;have v1:=HX7.out.rs.frozen 1;have v2:=HX7.out.rs.frozen 2;have v3:=HX7.out.rs.frozen 3;have v4:=HX7.out.rs.frozen 4;obtain ⟨W8,hW8⟩:∃ W8,w7.setCell ⟨be,4,none⟩ (.string tx)=W8:=⟨_,rfl⟩
     have HX8:Hid (Nx w0 w W8 c a len cap #[.slice a1 m.xs.length c1,.slice a2 m.ys.length c2,.slice a3 m.is.length c3,.slice a4 m.bs.length c4,.slice a5 m.fs.length c5,.slice a6 m.ds.length c6,.int .i64 m.nx,.slice ta tl tc,.slice ma ns.length mc,.slice ka kl kc,.slice pa pl pc] #[.int .i64 3,.string pp,.string ⟨#[]⟩,.int .i64 0,.string tx] be (.slice fa fl.length fcc) (.slice da dl.length dc) (.slice la al.length lc) fl dl al):=by rw [← hW8];exact HX7.out.setE 4 (.string tx)
     go_wp2_with fail
     refine (zax w0 W8 c a len cap 2 HO.out hlen HX8.out.cur (by decide) (by decide)).mono ?_;rintro e w9 ⟨x,hx,rfl,hd9⟩;have HX9:=hide (HX8.out.drew hd9);clear e0 e1 e2 e3 e4 f0 f1 f2 f3 f4 r0 r1 r2 r3 r4 v0 v1 v2 v3 v4 hd9 hW8;have e0:=HX9.out.ev.c0;have e1:=HX9.out.ev.c1;have e2:=HX9.out.ev.c2;have e3:=HX9.out.ev.c3;have e4:=HX9.out.ev.c4;have f0:=HX9.out.ev.frozen 0;have f1:=HX9.out.ev.frozen 1;have f2:=HX9.out.ev.frozen 2;have f3:=HX9.out.ev.frozen 3;have f4:=HX9.out.ev.frozen 4;have r0:=HX9.out.rs.c0;have r1:=HX9.out.rs.c1;have r2:=HX9.out.rs.c2;have r3:=HX9.out.rs.c3;have r4:=HX9.out.rs.c4;have v0:=HX9.out.rs.frozen 0;have v1:=HX9.out.rs.frozen 1;have v2:=HX9.out.rs.frozen 2;have v3:=HX9.out.rs.frozen 3;have v4:=HX9.out.rs.frozen 4;go_wp2;refine bodyPost_ret (v:=.agg #[.int .i64 3,.string pp,.string ⟨#[]⟩,.int .i64 (x:Int),.string tx]) (by simp [results,go_sem,r0,r1,r2,r3,r4]) rfl ⟨⟨_,_,_,_,_,rfl,by decide,by decide,hpp,by show (0:Nat)<=_;omega,htx2⟩,(HX9.out.setE 3 (.int .i64 (x:Int))).ret _ _ _ _ _⟩
   have h6:kd=6:=by have:=HKR.out;omega
   subst h6;clear h1 h2 h7 h5 h4 h3 HKR;go_wp2_with fail
   refine (zax w0 w2 c a len cap 21 HO.out hlen HX2.out.cur (by decide) (by decide)).mono ?_;rintro e w3 ⟨x,hx,rfl,hd3⟩;have HX3:=hide (HX2.out.drew hd3);clear e0 e1 e2 e3 e4 f0 f1 f2 f3 f4 r0 r1 r2 r3 r4 v0 v1 v2 v3 v4 hd3;have e0:=HX3.out.ev.c0;have e1:=HX3.out.ev.c1;have e2:=HX3.out.ev.c2;have e3:=HX3.out.ev.c3;have e4:=HX3.out.ev.c4;have f0:=HX3.out.ev.frozen 0;have f1:=HX3.out.ev.frozen 1;have f2:=HX3.out.ev.frozen 2;have f3:=HX3.out.ev.frozen 3;have f4:=HX3.out.ev.frozen 4;have r0:=HX3.out.rs.c0;have r1:=HX3.out.rs.c1;have r2:=HX3.out.rs.c2;have r3:=HX3.out.rs.c3;have r4:=HX3.out.rs.c4;have v0:=HX3.out.rs.frozen 0;have v1:=HX3.out.rs.frozen 1;have v2:=HX3.out.rs.frozen 2;have v3:=HX3.out.rs.frozen 3;have v4:=HX3.out.rs.frozen 4;obtain ⟨W4,hW4⟩:∃ W4,w3.setCell ⟨be,3,none⟩ (.int .i64 (x:Int))=W4:=⟨_,rfl⟩
   have HX4:Hid (Nx w0 w W4 c a len cap #[.slice a1 m.xs.length c1,.slice a2 m.ys.length c2,.slice a3 m.is.length c3,.slice a4 m.bs.length c4,.slice a5 m.fs.length c5,.slice a6 m.ds.length c6,.int .i64 m.nx,.slice ta tl tc,.slice ma ns.length mc,.slice ka kl kc,.slice pa pl pc] #[.int .i64 6,.string ⟨#[]⟩,.string ⟨#[]⟩,.int .i64 (x:Int),.string ⟨#[]⟩] be (.slice fa fl.length fcc) (.slice da dl.length dc) (.slice la al.length lc) fl dl al/\W4.heap.size=w3.heap.size):=by
    rw [← hW4];exact ⟨HX3.out.setE 3 (.int .i64 (x:Int)),by simp⟩
   obtain ⟨Wd,hWd⟩:∃ Wd,W4.alloc (.cells #[] 3)=Wd:=⟨_,rfl⟩
   have HL0:Hid (ROwns Wd w3.heap.size 3 (.slice (some ⟨w3.heap.size,0,none⟩) 0 0) (ic [])/\Below w3.heap.size W4 Wd):=by
    rw [← hWd,← HX4.out.2];exact ⟨ROwns.lit0 W4 _ 3 nR,(Below.refl _ W4).alloc nR _⟩
   have HXB:Hid (∀ W,Below w3.heap.size W4 W->Nx w0 w W c a len cap #[.slice a1 m.xs.length c1,.slice a2 m.ys.length c2,.slice a3 m.is.length c3,.slice a4 m.bs.length c4,.slice a5 m.fs.length c5,.slice a6 m.ds.length c6,.int .i64 m.nx,.slice ta tl tc,.slice ma ns.length mc,.slice ka kl kc,.slice pa pl pc] #[.int .i64 6,.string ⟨#[]⟩,.string ⟨#[]⟩,.int .i64 (x:Int),.string ⟨#[]⟩] be (.slice fa fl.length fcc) (.slice da dl.length dc) (.slice la al.length lc) fl dl al):=fun W bb=>HX4.out.1.below (by rw [HX4.out.2];exact bb);have x4:=(HXB.out Wd HL0.out.2).bx.c4;have hsz4:W4.heap.size=w3.heap.size:=HX4.out.2;go_wp2_with fail
   clear e0 e1 e2 e3 e4 f0 f1 f2 f3 f4 r0 r1 r2 r3 r4 v0 v1 v2 v3 v4 hW4 hWd x4 HX2 HX3;have hf20:(m.fs.length:Int)<=21:=by have:=HF21.out;omega
   go_loopw [11,12] (fun x11 i wr=>∃ (lv:Value) (l:List Int) (n:Nat),lv=x11/\n<=m.fs.length/\i=.int .i64 n/\Hid (ROwns wr w3.heap.size 3 lv (ic l)/\Below w3.heap.size W4 wr/\l.length<=n)) (fun _ i _=>m.fs.length - (intOf i).toNat)
   case atStart=>exact ⟨_,[],0,rfl,Nat.zero_le _,rfl,HL0.out.1,HL0.out.2,Nat.le_refl _⟩
   case round =>
    obtain ⟨lv,l,n,e11,hn,rfl,HR⟩:=hrel;subst e11;clear HL0;have HXW:=hide (HXB.out wr HR.out.2.1);have x4:=HXW.out.bx.c4;have n0:(0:Int)<=(n:Int):=by omega
    by_cases hlt:n < m.fs.length
    ·have n1:(n:Int) < (m.fs.length:Int):=by omega
     have n21:n < 21:=by have:=HF21.out;omega
     obtain ⟨gf,cf,ef,kf,-⟩:=(HN.out wr HXW.out.gr).2.at n (by rw [zae];exact hlt);rw [zae] at ef;simp only [Value.slice.injEq,true_and] at ef;obtain ⟨rfl,rfl⟩:=ef;obtain ⟨fb,hfb⟩:∃ fb,m.fs[n]=fb:=⟨_,rfl⟩
     replace kf:wr.cell? ⟨gf,n,none⟩=some (.bool fb):=kf.trans (by simp [fc,hlt,hfb])
     clear hfb
     cases fb with
     | false =>
      go_wp2;go_roundw
      case rel=>exact ⟨lv,l,n+1,rfl,by omega,by go_num,HR.out.1,HR.out.2.1,by have:=HR.out.2.2;omega⟩
      case measure=>simp [intOf];omega
     | true =>
      have HT:Hid (ROwns (wr.alloc (.cells #[.int .i64 (n:Int)] 3)) w3.heap.size 3 lv (ic l)):=HR.out.1.alloc _;have HK2:Hid ((wr.alloc (.cells #[.int .i64 (n:Int)] 3)).cell? ⟨wr.heap.size,0,none⟩=some (.int .i64 (n:Int))):=(AtC.new wr 3 #[.int .i64 (n:Int)]).cell 0;have HSZ:Hid (w3.heap.size<=(wr.alloc (.cells #[.int .i64 (n:Int)] 3)).heap.size):=by have:=HR.out.2.1.size;show _<=_;simp;omega
      have HTL:Hid ((ic l).length<=100000000000):=by have:=HR.out.2.2;show _<=_;rw [zaf];omega
      have HMK:Hid (∀ v12 w12,ROwns w12 w3.heap.size 3 v12 (ic l ++ [.int .i64 (n:Int)])->(wr.alloc (.cells #[.int .i64 (n:Int)] 3)).grownBy w12 lv.ownBlock->ROwns w12 w3.heap.size 3 v12 (ic (l ++ [(n:Int)]))/\Below w3.heap.size W4 w12):=fun v12 w12 T12 G12=>by
       have b:=HR.out.2.1;have ba:=b.alloc (by have:=b.size;omega) (.cells #[.int .i64 (n:Int)] 3);exact ⟨by simpa [ic] using T12,ba.grown G12 (by have:=ba.size;omega) (fun k hk=>(HR.out.1.lt k hk).1)⟩
      go_wp2_with (at_builtin;refine wpList_step fun K' hK'=>?_;refine zal _ rfl (.tmp 141) (.tmp 143) 35 rfl w3.heap.size 3 Tryz.u35 _ 8 Tryz.i3 rfl (by decide) lv _ rfl HT.out HSZ.out wr.heap.size (.int .i64 (n:Int)) rfl HK2.out rfl HTL.out ?_;intro v12 w12 T12 G12 V12;refine hK' _ _ ?_;have HR12:=hide (HMK.out v12 w12 T12 G12);clear T12 G12 V12 hK')
      go_roundw
      case rel=>exact ⟨v12,l ++ [(n:Int)],n+1,rfl,by omega,by go_num,HR12.out.1,HR12.out.2,by have:=HR.out.2.2;simp;omega⟩
      case measure=>simp [intOf];omega
    ·have n1:¬ ((n:Int) < (m.fs.length:Int)):=by omega
     obtain ⟨va,vc,elv,-⟩:=HR.out.1.form;rw [zaf] at elv;subst elv;have hll:l.length<=21:=by have:=HR.out.2.2;have:=HF21.out;omega
     have e0:=HXW.out.ev.c0;have e1:=HXW.out.ev.c1;have e2:=HXW.out.ev.c2;have e3:=HXW.out.ev.c3;have e4:=HXW.out.ev.c4;have f0:=HXW.out.ev.frozen 0;have f1:=HXW.out.ev.frozen 1;have f2:=HXW.out.ev.frozen 2;have f3:=HXW.out.ev.frozen 3;have f4:=HXW.out.ev.frozen 4;have r0:=HXW.out.rs.c0;have r1:=HXW.out.rs.c1;have r2:=HXW.out.rs.c2;have r3:=HXW.out.rs.c3;have r4:=HXW.out.rs.c4;have v0:=HXW.out.rs.frozen 0;have v1:=HXW.out.rs.frozen 1;have v2:=HXW.out.rs.frozen 2;have v3:=HXW.out.rs.frozen 3;have v4:=HXW.out.rs.frozen 4;by_cases hz:0 < l.length
     rotate_left
     ·have hz1:¬ (0:Int) < (l.length:Int):=by omega
      go_wp2;refine bodyPost_ret (v:=.agg #[.int .i64 6,.string ⟨#[]⟩,.string ⟨#[]⟩,.int .i64 (x:Int),.string ⟨#[]⟩]) (by simp [results,go_sem,r0,r1,r2,r3,r4]) rfl ⟨⟨_,_,_,_,_,rfl,by decide,by decide,by show (0:Nat)<=_;omega,by show (0:Nat)<=_;omega,by show (0:Nat)<=16;omega⟩,HXW.out.ret _ _ _ _ _⟩
     have hz1:(0:Int) < (l.length:Int):=by omega
     go_wp2_with fail
     refine (zjt w0 wr c a len cap 6 HO.out hlen HXW.out.cur (by decide) (by decide)).mono ?_;rintro e w7 ⟨y,rfl,hd7⟩;obtain ⟨bb,hbb⟩:∃ bb,(y == 0)=bb:=⟨_,rfl⟩
     rw [hbb];have HX7:=hide (HXW.out.drew hd7);have HL7:Hid (ROwns w7 w3.heap.size 3 (.slice va l.length vc) (ic l)):=HR.out.1.grown hd7.2 (fun k hk=>by have:=(HR.out.1.lt k hk).1;have:=HX4.out.1.size;have:=HX4.out.2;simp;omega);clear e0 e1 e2 e3 e4 f0 f1 f2 f3 f4 r0 r1 r2 r3 r4 v0 v1 v2 v3 v4 hbb hd7 x4;have e0:=HX7.out.ev.c0;have e1:=HX7.out.ev.c1;have e2:=HX7.out.ev.c2;have e3:=HX7.out.ev.c3;have e4:=HX7.out.ev.c4;have f0:=HX7.out.ev.frozen 0;have f1:=HX7.out.ev.frozen 1;have f2:=HX7.out.ev.frozen 2;have f3:=HX7.out.ev.frozen 3;have f4:=HX7.out.ev.frozen 4;have r0:=HX7.out.rs.c0;have r1:=HX7.out.rs.c1;have r2:=HX7.out.rs.c2;have r3:=HX7.out.rs.c3;have r4:=HX7.out.rs.c4;have v0:=HX7.out.rs.frozen 0;have v1:=HX7.out.rs.frozen 1;have v2:=HX7.out.rs.frozen 2;have v3:=HX7.out.rs.frozen 3;have v4:=HX7.out.rs.frozen 4
     cases bb with
     | true =>
      go_wp2;refine bodyPost_ret (v:=.agg #[.int .i64 6,.string ⟨#[]⟩,.string ⟨#[]⟩,.int .i64 (x:Int),.string ⟨#[]⟩]) (by simp [results,go_sem,r0,r1,r2,r3,r4]) rfl ⟨⟨_,_,_,_,_,rfl,by decide,by decide,by show (0:Nat)<=_;omega,by show (0:Nat)<=_;omega,by show (0:Nat)<=16;omega⟩,HX7.out.ret _ _ _ _ _⟩
     | false =>
      go_wp2_with fail
      refine (zax w0 w7 c a len cap l.length HO.out hlen HX7.out.cur hz (by omega)).mono ?_;rintro e w8 ⟨y2,hy2,rfl,hd8⟩;have HX8:=hide (HX7.out.drew hd8);have HL8:=HL7.out.grown hd8.2 (fun k hk=>by have:=(HL7.out.lt k hk).1;have:=HX4.out.1.size;have:=HX4.out.2;simp;omega);obtain ⟨gf,cf,ef,kf,-⟩:=HL8.at y2 (by rw [zaf];exact hy2);rw [zaf] at ef;simp only [Value.slice.injEq,true_and] at ef;obtain ⟨rfl,rfl⟩:=ef;obtain ⟨zz,hzz⟩:∃ zz,l[y2]=zz:=⟨_,rfl⟩
      replace kf:w8.cell? ⟨gf,y2,none⟩=some (.int .i64 zz):=kf.trans (by simp [ic,hy2,hzz])
      have y0:(0:Int)<=(y2:Int):=by omega
      have y1:(y2:Int) < (l.length:Int):=by omega
      clear e0 e1 e2 e3 e4 f0 f1 f2 f3 f4 r0 r1 r2 r3 r4 v0 v1 v2 v3 v4 hzz hd8 HL8;have e0:=HX8.out.ev.c0;have e1:=HX8.out.ev.c1;have e2:=HX8.out.ev.c2;have e3:=HX8.out.ev.c3;have e4:=HX8.out.ev.c4;have f0:=HX8.out.ev.frozen 0;have f1:=HX8.out.ev.frozen 1;have f2:=HX8.out.ev.frozen 2;have f3:=HX8.out.ev.frozen 3;have f4:=HX8.out.ev.frozen 4;have r0:=HX8.out.rs.c0;have r1:=HX8.out.rs.c1;have r2:=HX8.out.rs.c2;have r3:=HX8.out.rs.c3;have r4:=HX8.out.rs.c4;have v0:=HX8.out.rs.frozen 0;have v1:=HX8.out.rs.frozen 1;have v2:=HX8.out.rs.frozen 2;have v3:=HX8.out.rs.frozen 3;have v4:=HX8.out.rs.frozen 4;go_wp2;refine bodyPost_ret (v:=.agg #[.int .i64 6,.string ⟨#[]⟩,.string ⟨#[]⟩,.int .i64 zz,.string ⟨#[]⟩]) (by simp [results,go_sem,r0,r1,r2,r3,r4]) rfl ⟨⟨_,_,_,_,_,rfl,by decide,by decide,by show (0:Nat)<=_;omega,by show (0:Nat)<=_;omega,by show (0:Nat)<=16;omega⟩,(HX8.out.setE 3 (.int .i64 zz)).ret _ _ _ _ _⟩
namespace Xd
def noI:Ino:=(0,0,[0,0])
def newIs:List Ino:=(2,1,[0,0]) :: List.replicate 7 noI
def newBs:List Blk:=List.replicate 16 zB
def zD:Array Value:=#[.slice none 0 0,.slice none 0 0,.slice none 0 0,.slice none 0 0]
structure Dw (w w':World) (b:Nat) (u v:Value) (g:Nat) (bv:Value) (is:List Ino):Prop where
 res:AtC w' w.heap.size 30 zD
 box:AtC w' b 30 #[u,v,.slice (some ⟨g,0,none⟩) 8 8,bv]
 dsk:DO w' (fun k=>w.heap.size < k/\k≠b) u v (.slice (some ⟨g,0,none⟩) 8 8) bv newX newY is newBs
 bel:Below w.heap.size w w'
 hb:w.heap.size < b
theorem Dw.put {w w' w1:World}{b:Nat}{u v:Value}{g:Nat}{bv:Value}{is:List Ino}(h:Dw w w' b u v g bv is)(j:Nat)(hj:j < is.length)(k l:Int)(p:Value)(hb:Below w'.heap.size w' w1)(hO:ROwns w1 w'.heap.size 3 p (ic [0,0])) :
  Dw w (((w1.setCell ⟨g,j * 3,none⟩ (.int .i64 k)).setCell ⟨g,j * 3+1,none⟩ (.int .i64 l)).setCell ⟨g,j * 3+2,none⟩ p) b u v g bv (is.set j (k,l,[0,0])):=by
 obtain ⟨-,-,hg,-,hS,hSb⟩:=h.dsk.atI rfl j hj;have hbs:=h.box.lt;have hsz:=h.bel.size;refine ⟨(((h.res.over hb).other (by omega) _).other (by omega) _).other (by omega) _,(((h.box.over hb).other (Ne.symm hSb) _).other (Ne.symm hSb) _).other (Ne.symm hSb) _,?_,(((h.bel.trans (hb.mono hsz)).setCell (by show w.heap.size<=g;omega) _).setCell (by show w.heap.size<=g;omega) _).setCell (by show w.heap.size<=g;omega) _,h.hb⟩;have:=h.dsk.putI rfl j hj (.int .i64 k,.int .i64 l,p) (k,l,[0,0]) hb ⟨rfl,rfl,hO.base_le (Nat.zero_le _)⟩ (fun k hk=>(hO.lt k hk).1);have hr:=h.res.lt;exact this.mono fun k hk=>hk.elim id (fun e=>⟨by omega,by omega⟩)
theorem Dw.below {w w' w1:World}{b:Nat}{u v:Value}{g:Nat}{bv:Value}{is:List Ino}(h:Dw w w' b u v g bv is)(hb:Below w'.heap.size w' w1):Dw w w1 b u v g bv is :=
 ⟨h.res.over hb,h.box.over hb,h.dsk.below hb nR,h.bel.trans (hb.mono h.bel.size),h.hb⟩
theorem Dw.drew {w w':World}{b:Nat}{u v:Value}{g:Nat}{bv:Value}{is:List Ino}(h:Dw w w' b u v g bv is):Dw w w'.drew b u v g bv is:=h.below bR.drew
def PostD (MI MB:Array Value) (i lo hi:Nat) (w:World) (v:Value):Prop :=
 (i=0->∃ u u',v=.agg #[u,u']/\Two w lo u u' newX newY/\∀ k,(u.ownBlock=some k\/u'.ownBlock=some k)->k < hi) /\
 (i=1->v=.slice (some ⟨lo,0,none⟩) 8 8/\hi=lo+1/\AtC w lo 37 MI) /\
 (i=2->v=.slice (some ⟨lo,0,none⟩) 16 16/\hi=lo+1/\AtC w lo 44 MB) /\
 (i=4->v=.pointer (some ⟨lo,0,none⟩)/\hi=lo+1/\AtC w lo 30 #[.slice none 0 0,.slice none 0 0,.slice none 0 0,.slice none 0 0])
theorem PostD.stable (MI MB:Array Value)(i lo hi:Nat)(w w':World)(v:Value)(h:PostD MI MB i lo hi w v)(hb:Below w.heap.size w w'):PostD MI MB i lo hi w' v :=
 ⟨fun e=>by obtain ⟨u,u',h1,h2,h3⟩:=h.1 e;exact ⟨u,u',h1,h2.below hb nR,h3⟩,fun e=>by obtain ⟨h1,h2,h3⟩:=h.2.1 e;exact ⟨h1,h2,h3.over hb⟩,
  fun e=>by obtain ⟨h1,h2,h3⟩:=h.2.2.1 e;exact ⟨h1,h2,h3.over hb⟩,fun e=>by obtain ⟨h1,h2,h3⟩:=h.2.2.2 e;exact ⟨h1,h2,h3.over hb⟩⟩
def InvD (s:List Nat) (x:Nat->Value):Prop:=3∈s->(0∈s/\1∈s/\2∈s)/\∃ u u' g1 g2,x 0=.agg #[u,u']/\x 1=.slice (some ⟨g1,0,none⟩) 8 8/\x 2=.slice (some ⟨g2,0,none⟩) 16 16/\x 3=.agg #[u,u',.slice (some ⟨g1,0,none⟩) 8 8,.slice (some ⟨g2,0,none⟩) 16 16]
theorem InvD.next {s:List Nat}{x:Nat->Value}(h:InvD s x){j:Nat}{v:Value}(hj:¬ j∈s)(h3:j≠3):InvD (j :: s) (upd x j v):=fun hm=>by
 rcases List.mem_cons.1 hm with e | hm
 ·exact absurd e.symm h3
 ·obtain ⟨⟨h0,h1,h2⟩,u,u',g1,g2,e0,e1,e2,e3⟩:=h hm;have ne:∀ i∈s,i≠j:=fun i hi e=>hj (e ▸ hi);exact ⟨⟨List.mem_cons_of_mem _ h0,List.mem_cons_of_mem _ h1,List.mem_cons_of_mem _ h2⟩,u,u',g1,g2,by rw [zas _ _ _ _ (ne _ h0),e0],by rw [zas _ _ _ _ (ne _ h1),e1],by rw [zas _ _ _ _ (ne _ h2),e2],by rw [zas _ _ _ _ (ne _ hm),e3]⟩
end Xd
namespace Xd
theorem zgb (w:World) :
  Calls Tryz.prog 60 #[] w fun e w'=>∃ u v,e=.returned (.agg #[u,v])/\Two w' w.heap.size u v newX newY/\Below w.heap.size w w':=by
 have mk:=make16;have mk2:=make8;go_enter Tryz.func60,Tryz.ntmps60
 go_wp2
 go_region
 all_goals go_wp2
 ·exact bodyPost_ret (v:=.agg #[.slice (some ⟨w.heap.size+1,0,none⟩) 16 16,.slice (some ⟨w.heap.size+1+1,0,none⟩) 8 8]) (by simp [results,go_sem]) rfl ⟨_,_,rfl,zc0 _ _ _ _ (heap4 _ _ _ _ _).1 (heap4 _ _ _ _ _).2.1 (by omega) (by omega) (by omega),by go_grown⟩
 ·exact bodyPost_ret (v:=.agg #[.slice (some ⟨w.heap.size+1,0,none⟩) 16 16,.slice (some ⟨w.heap.size+1+1+1,0,none⟩) 8 8]) (by simp [results,go_sem]) rfl ⟨_,_,rfl,zc0 _ _ _ _ (heap4 _ _ _ _ _).1 (heap4 _ _ _ _ _).2.2 (by omega) (by omega) (by omega),by go_grown⟩
 ·exact bodyPost_ret (v:=.agg #[.slice (some ⟨w.heap.size+1+1,0,none⟩) 16 16,.slice (some ⟨w.heap.size+1,0,none⟩) 8 8]) (by simp [results,go_sem]) rfl ⟨_,_,rfl,zc0 _ _ _ _ (heap4 _ _ _ _ _).2.1 (heap4 _ _ _ _ _).1 (by omega) (by omega) (by omega),by go_grown⟩
 ·exact bodyPost_ret (v:=.agg #[.slice (some ⟨w.heap.size+1+1+1,0,none⟩) 16 16,.slice (some ⟨w.heap.size+1,0,none⟩) 8 8]) (by simp [results,go_sem]) rfl ⟨_,_,rfl,zc0 _ _ _ _ (heap4 _ _ _ _ _).2.2 (heap4 _ _ _ _ _).1 (by omega) (by omega) (by omega),by go_grown⟩
 ·exact bodyPost_ret (v:=.agg #[.slice (some ⟨w.heap.size+1+1,0,none⟩) 16 16,.slice (some ⟨w.heap.size+1+1+1,0,none⟩) 8 8]) (by simp [results,go_sem]) rfl ⟨_,_,rfl,zc0 _ _ _ _ (heap4 _ _ _ _ _).2.1 (heap4 _ _ _ _ _).2.2 (by omega) (by omega) (by omega),by go_grown⟩
 ·exact bodyPost_ret (v:=.agg #[.slice (some ⟨w.heap.size+1+1+1,0,none⟩) 16 16,.slice (some ⟨w.heap.size+1+1,0,none⟩) 8 8]) (by simp [results,go_sem]) rfl ⟨_,_,rfl,zc0 _ _ _ _ (heap4 _ _ _ _ _).2.2 (heap4 _ _ _ _ _).2.1 (by omega) (by omega) (by omega),by go_grown⟩
structure Ds (w w':World) (b:Nat) (u v iv bv:Value) (is:List Ino) (bs:List Blk):Prop where
 res:AtC w' w.heap.size 30 zD
 box:AtC w' b 30 #[u,v,iv,bv]
 dsk:DO w' (fun k=>w.heap.size < k/\k≠b) u v iv bv newX newY is bs
 bel:Below w.heap.size w w'
 hb:w.heap.size < b
namespace Ds
variable {w w' w1 : World} {b : Nat} {u v iv bv : Value} {is : List Ino} {bs : List Blk}
theorem below (h:Ds w w' b u v iv bv is bs)(hb:Below w'.heap.size w' w1):Ds w w1 b u v iv bv is bs :=
 ⟨h.res.over hb,h.box.over hb,h.dsk.below hb nR,h.bel.trans (hb.mono h.bel.size),h.hb⟩
theorem drew (h:Ds w w' b u v iv bv is bs):Ds w w'.drew b u v iv bv is bs:=h.below bR.drew
theorem put (h:Ds w w' b u v iv bv is bs){g n cap:Nat}(hv:iv=.slice (some ⟨g,0,none⟩) n cap)(j:Nat)(hj:j < is.length)(k l:Int)(p:Value)(hb:Below w'.heap.size w' w1)(hO:ROwns w1 w'.heap.size 3 p (ic [0,0])) :
  Ds w (((w1.setCell ⟨g,j * 3,none⟩ (.int .i64 k)).setCell ⟨g,j * 3+1,none⟩ (.int .i64 l)).setCell ⟨g,j * 3+2,none⟩ p) b u v iv bv (is.set j (k,l,[0,0])) bs:=by
 obtain ⟨-,-,hg,-,hS,hSb⟩:=h.dsk.atI hv j hj;have hbs:=h.box.lt;have hsz:=h.bel.size;refine ⟨(((h.res.over hb).other (by omega) _).other (by omega) _).other (by omega) _,(((h.box.over hb).other (Ne.symm hSb) _).other (Ne.symm hSb) _).other (Ne.symm hSb) _,?_,(((h.bel.trans (hb.mono hsz)).setCell (by show w.heap.size<=g;omega) _).setCell (by show w.heap.size<=g;omega) _).setCell (by show w.heap.size<=g;omega) _,h.hb⟩;have:=h.dsk.putI hv j hj (.int .i64 k,.int .i64 l,p) (k,l,[0,0]) hb ⟨rfl,rfl,hO.base_le (Nat.zero_le _)⟩ (fun k hk=>(hO.lt k hk).1);have hr:=h.res.lt;exact this.mono fun k hk=>hk.elim id (fun e=>⟨by omega,by omega⟩)
theorem app (h:Ds w w' b u v iv bv is bs):∃ ti,TOwns w' 37 iv ti/\ti.length=is.length/\∀ (w1 w2:World) (iv' p:Value),Below w'.heap.size w' w1->ROwns w1 w'.heap.size 3 p (ic [0,0]) ->
  TOwns w2 37 iv' (ti ++ [(.int .i64 0,.int .i64 0,p)])->w1.grownBy w2 iv.ownBlock->(∀ k,iv'.ownBlock=some k->iv.ownBlock=some k\/w1.heap.size<=k) ->
  (AtC w2 b 30 #[u,v,iv,bv])/\Ds w (w2.setCell ⟨b,2,none⟩ iv') b u v iv' bv (is ++ [noI]) bs:=by
 obtain ⟨ti,h1,h2,h3⟩:=h.dsk.appI;refine ⟨ti,h1,h2,fun w1 w2 iv' p hb hO hr hg hv=>?_⟩;have hS:=(fun (S1:Nat->Prop) k (hk:iv.ownBlock=some k) (q:∀ k,iv.ownBlock=some k->S1 k)=>q k hk) (fun k=>w.heap.size < k/\k≠b)
 have hso:∀ k,iv.ownBlock=some k->w.heap.size < k/\k≠b:=by
  obtain ⟨S1,S2,S3,ti,tb,a1,a2,a3,a4,a5,a6,a7⟩:=h.dsk;exact fun k hk=>a7 k (.inr (.inl (a3.so k hk)))
 have hbs:=h.box.lt;have hsz:=h.bel.size;have hsz1:=hb.size;have hr0:=h.res.lt;have e1:AtC w2 w.heap.size 30 zD:=(hg.block _ (by omega) (fun e=>by have:=hso _ e.symm;omega)).trans (h.res.over hb);have e2:AtC w2 b 30 #[u,v,iv,bv]:=(hg.block _ (by omega) (fun e=>by have:=hso _ e.symm;omega)).trans (h.box.over hb);have d:=h3 w1 w2 iv' (.int .i64 0,.int .i64 0,p) noI hb ⟨rfl,rfl,hO.base_le (Nat.zero_le _)⟩ (fun k hk=>(hO.lt k hk).1) hr hg hv;have b2:Below w.heap.size w w2:=(h.bel.trans (hb.mono hsz)).grown hg (by omega) (fun k hk=>by have:=hso k hk;omega);refine ⟨e2,⟨e1.other (by have:=h.hb;omega) _,e2.set 2 iv',?_,b2.setCell (by show w.heap.size<=b;have:=h.hb;omega) _,h.hb⟩⟩;have d2:=d.mono (S':=fun k=>w.heap.size < k/\k≠b) fun k hk=>hk.elim id (fun e=>⟨by omega,by omega⟩);exact d2.of_heap fun k hk _=>heap_setCell_other w2 ⟨b,2,none⟩ k iv' (by show k≠b;omega)
theorem mkB (h:Ds w w' b u v iv bv is bs)(MB:Array Value)(hMB:madeCells #[.bool false,.slice none 0 0,.string ⟨#[]⟩] (16 * 3)=MB) :
  Ds w ((w'.alloc (.cells MB 44)).setCell ⟨b,3,none⟩ (.slice (some ⟨w'.heap.size,0,none⟩) 16 16)) b u v iv (.slice (some ⟨w'.heap.size,0,none⟩) 16 16) is newBs:=by
 have GB:GO KB (w'.alloc (.cells MB 44)) (fun k=>k=w'.heap.size) (.slice (some ⟨w'.heap.size,0,none⟩) 16 16) (List.replicate 16 zB3) (List.replicate 16 zB):=GO.of_at (AtC.new w' 44 MB) (by rw [← hMB];exact zhi _ _ _ _) (by unfold maxLen;decide) (zB_own _) rfl;have hb1:Below w'.heap.size w' (w'.alloc (.cells MB 44)):=(Below.refl _ w').alloc nR _;have d:=h.dsk.setB hb1 GB (fun k hk=>by omega);have hbs:=h.box.lt;have hsz:=h.bel.size;have hr0:=h.res.lt;refine ⟨(h.res.alloc _).other (by have:=h.hb;omega) _,(h.box.alloc _).set 3 _,?_,(h.bel.alloc hsz _).setCell (by show w.heap.size<=b;have:=h.hb;omega) _,h.hb⟩;have d2:=d.mono (S':=fun k=>w.heap.size < k/\k≠b) fun k hk=>hk.elim id (fun e=>⟨by omega,by omega⟩);exact d2.of_heap fun k hk _=>heap_setCell_other _ ⟨b,3,none⟩ k _ (by show k≠b;omega)
end Ds
theorem ds_start {w w1:World}{u v:Value}(B1:Below (w.alloc (.cells zD 30)).heap.size (w.alloc (.cells zD 30)) w1)(T1:Two w1 (w.alloc (.cells zD 30)).heap.size u v newX newY) :
  Ds w (w1.alloc (.cells #[u,v,.slice none 0 0,.slice none 0 0] 30)) w1.heap.size u v (.slice none 0 0) (.slice none 0 0) [] []:=by
 have hsz:=B1.size;simp only [World.size_alloc] at hsz;have own1:∀ k,(u.ownBlock=some k\/v.ownBlock=some k)->w.heap.size < k/\k < w1.heap.size:=fun k hk=>by
  have:=hk.elim (fun e=>T1.a.lt k e) (fun e=>T1.b.lt k e);simp only [World.size_alloc] at this;omega
 refine ⟨((AtC.new w 30 zD).over B1).alloc _,AtC.new w1 30 _,⟨fun k=>u.ownBlock=some k\/v.ownBlock=some k,fun _=>False,fun _=>False,[],[],(T1.alloc _).base_le (Nat.zero_le _),fun k hk=>hk,?_,?_,fun k hk=>⟨id,id⟩,fun k hk=>hk.elim,fun k hk=>?_⟩,?_,by omega⟩
 ·exact cQ41
 ·exact cQ41
 ·rcases hk with hk | hk | hk
  ·have:=own1 k hk;omega
  ·exact hk.elim
  ·exact hk.elim
 ·exact (((Below.refl _ w).alloc nR _).trans (B1.mono (by simp))).alloc (by omega) _
def PostA (b:Nat) (gi:Option Addr) (n ci:Nat) (i lo hi:Nat) (w:World) (v:Value):Prop :=
 (i=0->v=.pointer (some ⟨b,2,none⟩))/\(i=1->v=.slice gi n ci) /\
 (i=2->∃ p,v=.agg #[.int .i64 0,.int .i64 (zak 0),p]/\ROwns w lo 3 p (ic [0,0])/\∀ k,p.ownBlock=some k->k < hi) /\
 (i=3->v=.slice (some ⟨lo,0,none⟩) 1 1/\hi=lo+1)
theorem PostA.stable {b:Nat}{gi:Option Addr}{n ci:Nat}(i lo hi:Nat)(w w':World)(v:Value)(h:PostA b gi n ci i lo hi w v)(hb:Below w.heap.size w w'):PostA b gi n ci i lo hi w' v :=
 ⟨h.1,h.2.1,fun e=>by obtain ⟨p,h1,h2,h3⟩:=h.2.2.1 e;exact ⟨p,h1,h2.below hb nR,h3⟩,h.2.2.2⟩
def InvA (s:List Nat) (x:Nat->Value) (w:World):Prop:=3∈s->2∈s/\∃ p g,x 2=.agg #[.int .i64 0,.int .i64 (zak 0),p]/\x 3=.slice (some ⟨g,0,none⟩) 1 1/\AtC w g 37 #[.int .i64 0,.int .i64 (zak 0),p]
theorem InvA.next {s:List Nat}{x:Nat->Value}{w w':World}(h:InvA s x w){j:Nat}{v:Value}(hj:¬ j∈s)(h3:j≠3)(hb:Below w.heap.size w w'):InvA (j :: s) (upd x j v) w':=fun hm=>by
 rcases List.mem_cons.1 hm with e | hm
 ·exact absurd e.symm h3
 ·obtain ⟨h2,p,g,e2,e3,A⟩:=h hm;have ne:∀ i∈s,i≠j:=fun i hi e=>hj (e ▸ hi);exact ⟨List.mem_cons_of_mem _ h2,p,g,by rw [zas _ _ _ _ (ne _ h2),e2],by rw [zas _ _ _ _ (ne _ hm),e3],A.over hb⟩
theorem zdl (w:World) :
  Calls Tryz.prog 43 #[] w fun e w'=>∃ u v iv bv,e=.returned (.agg #[u,v,iv,bv])/\DO w' (fun k=>w.heap.size<=k) u v iv bv newX newY newIs newBs/\Below w.heap.size w w':=by
 have mb:∀ w,(Instr.makeSlice 28 (.int .i64 16) (.int .i64 16)).run Tryz.prog w=.ok (.slice (some ⟨w.heap.size,0,none⟩) 16 16) (w.alloc (.cells (madeCells #[.bool false,.slice none 0 0,.string ⟨#[]⟩] (16 * 3)) 44)):=make_blk 16 (by decide);obtain ⟨MB,hMB⟩:∃ M,madeCells #[.bool false,.slice none 0 0,.string ⟨#[]⟩] (16 * 3)=M:=⟨_,rfl⟩
 rw [hMB] at mb;have HMB:=hide hMB;clear hMB;go_enter Tryz.func43,Tryz.ntmps43
 go_wp2_with fail
 refine (zgb _).mono ?_;rintro e w1 ⟨u,v,rfl,T1,B1⟩;obtain ⟨a1,c1,a2,c2,rfl,rfl⟩:=T1.form;have HD:=hide (ds_start B1 T1);clear T1 B1;go_wp2_with fail
 generalize w1.heap.size=b at *;generalize w1.alloc (.cells #[.slice a1 newX.length c1,.slice a2 newY.length c2,.slice none 0 0,.slice none 0 0] 30)=W1 at *;go_loopw [2] (fun i wr=>∃ j:Nat,j<=8/\i=.int .i64 j/\Hid (∃ iv,Ds w wr b (.slice a1 newX.length c1) (.slice a2 newY.length c2) iv (.slice none 0 0) (List.replicate j noI) [])) (fun i _=>8 - (intOf i).toNat)
 case atStart=>exact ⟨0,Nat.zero_le _,rfl,_,HD.out⟩
 case round =>
  obtain ⟨j,hj,rfl,HR⟩:=hrel;obtain ⟨iv,hds⟩:=HR.out;by_cases hlt:j < 8
  ·have j1:(j:Int) < 8:=by omega
   obtain ⟨ti,k1,k2,k3⟩:=hds.drew.app;obtain ⟨gi,ci,rfl,-⟩:=k1.form;have hti:ti.length=j:=by rw [k2];simp
   have q2:=hds.box.c2;have HX:=hide (And.intro k1 (And.intro k3 hti));have HDS:=hide hds;clear k1 k2 k3 hds HR;have hb:=HDS.out.box.lt;clear hti;go_wp2_with fail
   refine zbz (by kernel_rfl) [0,1,2,3] [4,5,6] (fun x=>⟨#[.pointer (some ⟨w.heap.size,0,none⟩),.pointer (some ⟨b,0,none⟩),.int .i64 (j:Int),.agg #[.slice a1 newX.length c1,.slice a2 newY.length c2],.agg #[.slice a1 newX.length c1,.slice a2 newY.length c2,.slice none 0 0,.slice none 0 0],.int .i64 (j:Int),.bool true,u7,u8,x 0,x 1,x 2,x 3,u13,u14,undef,undef,undef,undef,undef,undef,undef],[]⟩) (fun i=>match i with|0=>u9|1=>u10|2=>u11|_=>u12) rfl (PostA b gi ti.length ci) InvA PostA.stable (by kernel_rfl) (by kernel_rfl) rfl (fun h=>by cases h) ?_ ?_
   ·intro j' hj' s x iv W hr hns hp hI K hK;simp only [List.mem_cons,List.not_mem_nil,or_false] at hj';rcases hj' with rfl | rfl | rfl | rfl
    ·refine wpOp_step (o:=_) rfl fun K' hK'=>?_;have HK:Hid (∀ v W',Below W.heap.size W W'->PostA b gi ti.length ci 0 W.heap.size W'.heap.size W' v->K' ⟨#[.pointer (some ⟨w.heap.size,0,none⟩),.pointer (some ⟨b,0,none⟩),.int .i64 (j:Int),.agg #[.slice a1 newX.length c1,.slice a2 newY.length c2],.agg #[.slice a1 newX.length c1,.slice a2 newY.length c2,.slice none 0 0,.slice none 0 0],.int .i64 (j:Int),.bool true,u7,u8,v,x 1,x 2,x 3,u13,u14,undef,undef,undef,undef,undef,undef,undef],[]⟩ W'):=fun v W' h1 h2=>hK' _ _ (hK v W' h1 h2 (hI.next hns (by decide) h1));clear hK hK' hr hp hI;go_simp;exact HK.out _ _ bR ⟨fun _=>rfl,(fun e=>by cases e),(fun e=>by cases e),(fun e=>by cases e)⟩
    ·have d0:0∈s:=zbl hr rfl ⟨{ on:=0,ground:=.data },by simp,rfl,rfl⟩;refine wpOp_step (o:=_) rfl fun K' hK'=>?_;have HK:Hid (∀ v W',Below W.heap.size W W'->PostA b gi ti.length ci 1 W.heap.size W'.heap.size W' v->K' ⟨#[.pointer (some ⟨w.heap.size,0,none⟩),.pointer (some ⟨b,0,none⟩),.int .i64 (j:Int),.agg #[.slice a1 newX.length c1,.slice a2 newY.length c2],.agg #[.slice a1 newX.length c1,.slice a2 newY.length c2,.slice none 0 0,.slice none 0 0],.int .i64 (j:Int),.bool true,u7,u8,x 0,v,x 2,x 3,u13,u14,undef,undef,undef,undef,undef,undef,undef],[]⟩ W'):=fun v W' h1 h2=>hK' _ _ (hK v W' h1 h2 (hI.next hns (by decide) h1));obtain e0:=(hp.post 0 d0).1 rfl;have y2:=(HDS.out.drew.below hp.bel).box.c2;clear hK hK' hr hp hI;simp only [e0];simp only [e0] at HK;go_simp;exact HK.out _ _ bR ⟨(fun e=>by cases e),fun _=>rfl,(fun e=>by cases e),(fun e=>by cases e)⟩
    ·refine wpOp_step (o:=_) rfl fun K' hK'=>?_;have HK:Hid (∀ v W',Below W.heap.size W W'->PostA b gi ti.length ci 2 W.heap.size W'.heap.size W' v->K' ⟨#[.pointer (some ⟨w.heap.size,0,none⟩),.pointer (some ⟨b,0,none⟩),.int .i64 (j:Int),.agg #[.slice a1 newX.length c1,.slice a2 newY.length c2],.agg #[.slice a1 newX.length c1,.slice a2 newY.length c2,.slice none 0 0,.slice none 0 0],.int .i64 (j:Int),.bool true,u7,u8,x 0,x 1,v,x 3,u13,u14,undef,undef,undef,undef,undef,undef,undef],[]⟩ W'):=fun v W' h1 h2=>hK' _ _ (hK v W' h1 h2 (hI.next hns (by decide) h1));clear hK hK' hr hp hI;go_simp;refine (zbf _ _).mono ?_;rintro e w6 ⟨p,rfl,O6,B6⟩;go_simp;exact HK.out _ _ B6 ⟨(fun e=>by cases e),(fun e=>by cases e),fun _=>⟨p,rfl,O6,fun k hk=>(O6.lt k hk).2⟩,(fun e=>by cases e)⟩
    ·have d2:2∈s:=zbl hr rfl ⟨{ on:=2,ground:=.data },by simp,rfl,rfl⟩;refine wpOp_step (o:=_) rfl fun K' hK'=>?_;have HK:Hid (∀ v W',Below W.heap.size W W'->PostA b gi ti.length ci 3 W.heap.size W'.heap.size W' v->(2∈3 :: s/\∃ p g,upd x 3 v 2=.agg #[.int .i64 0,.int .i64 (zak 0),p]/\upd x 3 v 3=.slice (some ⟨g,0,none⟩) 1 1/\AtC W' g 37 #[.int .i64 0,.int .i64 (zak 0),p])->K' ⟨#[.pointer (some ⟨w.heap.size,0,none⟩),.pointer (some ⟨b,0,none⟩),.int .i64 (j:Int),.agg #[.slice a1 newX.length c1,.slice a2 newY.length c2],.agg #[.slice a1 newX.length c1,.slice a2 newY.length c2,.slice none 0 0,.slice none 0 0],.int .i64 (j:Int),.bool true,u7,u8,x 0,x 1,x 2,v,u13,u14,undef,undef,undef,undef,undef,undef,undef],[]⟩ W'):=fun v W' h1 h2 h3=>hK' _ _ (hK v W' h1 h2 (fun _=>h3));obtain ⟨p,e2,O2,-⟩:=(hp.post 2 d2).2.2.1 rfl;obtain ⟨s1,t1,rfl⟩:=O2.form2;clear hK hK' hr hp hI;simp only [e2];simp only [e2] at HK;go_simp;exact HK.out _ _ ((Below.refl _ W).alloc nR _) ⟨(fun e=>by cases e),(fun e=>by cases e),(fun e=>by cases e),fun _=>⟨rfl,by simp⟩⟩ ⟨List.mem_cons_of_mem _ d2,_,_,by rw [zas _ _ _ _ (by decide),e2],by rw [zay],AtC.new W 37 _⟩
   ·intro s x iv W hs hp hI;obtain ⟨-,p,g,e2,e3,A3⟩:=hI (hs 3 (by decide));have e1:=(hp.post 1 (by decide)).2.1 rfl;obtain ⟨p',f2,O2,-⟩:=(hp.post 2 (by decide)).2.2.1 rfl;rw [e2] at f2;simp only [Value.agg.injEq,Array.mk.injEq,List.cons.injEq,and_true,true_and] at f2;subst f2;have l2:=(hp.lo 2 (by decide)).1;have hbel:=hp.bel;have O3:ROwns W wr.drew.heap.size 3 p (ic [0,0]):=O2.base_le l2;obtain ⟨s1,t1,rfl⟩:=O3.form2;have hT:TOwns W 37 (.slice gi ti.length ci) ti:=HX.out.1.of_heap fun k hk=>hbel.block k (HX.out.1.lt k hk);have HN:Hid (∀ v' w',TOwns w' 37 v' (ti ++ [(.int .i64 0,.int .i64 0,.slice s1 2 t1)])->W.grownBy w' (Value.slice gi ti.length ci).ownBlock->(∀ k,v'.ownBlock=some k->(Value.slice gi ti.length ci).ownBlock=some k\/W.heap.size<=k)->(AtC w' b 30 #[.slice a1 newX.length c1,.slice a2 newY.length c2,.slice gi ti.length ci,.slice none 0 0])/\Ds w (w'.setCell ⟨b,2,none⟩ v') b (.slice a1 newX.length c1) (.slice a2 newY.length c2) v' (.slice none 0 0) (List.replicate j noI ++ [noI]) []):=fun v' w' h1 h2 h3=>HX.out.2.1 W w' v' _ hbel O3 h1 h2 h3;have HTL:Hid (ti.length<=1000000000000):=by have:=HX.out.2.2;show ti.length<=_;omega
    have HA3:=hide A3;have HT:=hide hT;simp only [e1,e2,e3];clear hT O3 O2 hp hI hs l2 hbel A3 e1 e2 e3 HX HDS q2;refine wpList_step fun K' hK'=>?_;refine za9 _ rfl (.tmp 10) (.tmp 12) 27 rfl 37 Tryz.u27 _ 40 Tryz.i37 rfl (by decide) (.slice gi ti.length ci) ti rfl HT.out g (.int .i64 0,.int .i64 0,.slice s1 2 t1) rfl ⟨HA3.out.cell 0,HA3.out.cell 1,HA3.out.cell 2⟩ ⟨rfl,rfl,rfl⟩ HTL.out ?_;intro v9 w9 T9 G9 V9;refine hK' _ _ ?_;obtain ⟨e9,D9⟩:=HN.out v9 w9 T9 G9 V9;obtain ⟨g9,c9,rfl,-⟩:=T9.form;have e10:(ti ++ [((.int .i64 0,.int .i64 0,.slice s1 2 t1):V3)]).length=ti.length+1:=by simp
    rw [e10] at D9 ⊢;clear e10;have z2:=e9.frozen 2;have z3:=e9.c2;have H9:=hide D9;clear e9 D9 T9 G9 V9 HN HA3 HT HTL hK' K';go_wp2_with fail
    rw [List.filterMap_nil];go_wp2;go_roundw
    case rel=>exact ⟨j+1,by omega,by go_num,_,by rw [List.replicate_succ'];exact H9.out⟩
    case measure=>simp [intOf];omega
  ·have hj8:j=8:=by omega
   subst hj8;obtain ⟨ti,k1,k2,-⟩:=hds.app;rw [List.length_replicate] at k2;obtain ⟨gi,ci,rfl,-⟩:=k1.at 0 (by omega);rw [k2] at hds;have q2:=hds.box.c2;have hjl:0 < (List.replicate 8 noI).length:=by decide
   have HJ:=hide hjl;have HR2:=hide hds;clear hjl k1 k2 hds HR;go_wp2_with fail
   go_region_held3 (fun w'=>w'.cell? ⟨b,2,none⟩=some (.slice (some ⟨gi,0,none⟩) 8 ci)) (first | exact HR2.out.drew.box.cell 2 | exact (HR2.out.drew.below B6).box.cell 2 | exact (HR2.out.drew.put rfl 0 HJ.out _ _ _ B6 O6).box.cell 2) ((go_at_call 21;refine (zbf _ _).mono ?_;rintro e w6 ⟨p,rfl,O6,B6⟩;obtain ⟨⟨x1,x2,x3,m1,m2,m3,-,-,-⟩,fz,-⟩:=(HR2.out.drew.below B6).dsk.atI rfl 0 HJ.out;have n0:=fz (0 * 3);have n1:=fz (0 * 3+1);have n2:=fz (0 * 3+2);clear fz;obtain ⟨s1,t1,rfl⟩:=O6.form2;simp only [Nat.zero_mul,Nat.zero_add] at m1 m2 m3 n0 n1 n2))
   have hp6:=HR2.out.drew.put rfl 0 HJ.out 2 (zak 2) (.slice s1 2 t1) B6 O6;rw [show ((2:Int),zak 2,[(0:Int),0])=(2,1,[0,0]) from rfl,show (List.replicate 8 noI).set 0 (2,1,[0,0])=newIs from rfl] at hp6;simp only [Nat.zero_mul,Nat.zero_add] at hp6;obtain ⟨W6,hW6⟩:∃ W6,((w6.setCell ⟨gi,0,none⟩ (.int .i64 2)).setCell ⟨gi,1,none⟩ (.int .i64 (zak 2))).setCell ⟨gi,2,none⟩ (.slice s1 2 t1)=W6:=⟨_,rfl⟩
   rw [hW6] at hp6 ⊢;clear hW6 B6 O6 m1 m2 m3 n0 n1 n2 HR2 HJ;have hp7:=hp6.mkB MB HMB.out;have b3:=hp6.box.c3;have b4:=hp6.box.frozen 3;have b5:=hp6.box.lt;obtain ⟨W7,hW7⟩:∃ W7,(W6.alloc (.cells MB 44)).setCell ⟨b,3,none⟩ (.slice (some ⟨W6.heap.size,0,none⟩) 16 16)=W7:=⟨_,rfl⟩
   rw [hW7] at hp7;have H7:=hide hp7;obtain ⟨y0,y1,y2,y3⟩:=AtC.four hp7.box;obtain ⟨r0,r1,r2,r3⟩:=AtC.four hp7.res;have v0:=hp7.res.frozen 0;have v1:=hp7.res.frozen 1;have v2:=hp7.res.frozen 2;have v3:=hp7.res.frozen 3;clear hp6 hp7;go_wp2;refine bodyPost_ret (v:=.agg #[.slice a1 newX.length c1,.slice a2 newY.length c2,.slice (some ⟨gi,0,none⟩) 8 ci,.slice (some ⟨W6.heap.size,0,none⟩) 16 16]) (by simp [results,go_sem,r0,r1,r2,r3]) rfl ⟨_,_,_,_,rfl,?_,?_⟩
   ·exact (H7.out.dsk.of_heap fun k hk _=>((((heap_setCell_other _ ⟨w.heap.size,3,none⟩ k _ (by show k≠w.heap.size;omega)).trans (heap_setCell_other _ ⟨w.heap.size,2,none⟩ k _ (by show k≠w.heap.size;omega))).trans (heap_setCell_other _ ⟨w.heap.size,1,none⟩ k _ (by show k≠w.heap.size;omega))).trans (heap_setCell_other _ ⟨w.heap.size,0,none⟩ k _ (by show k≠w.heap.size;omega)))).mono fun k hk=>by omega
   ·exact (((H7.out.bel.setCell nR _).setCell nR _).setCell nR _).setCell nR _
end Xd
namespace Xd
def MkS (n:Nat) (T:TypeId) (cs:Array Value):Mk:=.val [] (fun lo hi w v=>v=.slice (some ⟨lo,0,none⟩) n n/\hi=lo+1/\AtC w lo T cs) (fun _ _ _ _ _ h hb=>⟨h.1,h.2.1,h.2.2.over hb⟩)
def MkM (k l n1 n2 n3 n4 n5:Nat):Mk:=⟨[k,l],fun _ _ _ v x=>∃ a1 c1 a2 c2 a3 c3 a4 c4 a5 c5,x k=.agg #[.slice a1 n1 c1,.slice a2 n2 c2,.slice a3 n3 c3,.slice a4 n4 c4]/\x l=.slice a5 n5 c5/\v=.agg #[.slice a1 n1 c1,.slice a2 n2 c2,.slice a3 n3 c3,.slice a4 n4 c4,.slice a5 n5 c5,.slice none 0 0,.int .i64 1],fun _ _ _ _ _ _ h _=>h,fun _ _ _ _ x x' e h=>by
 obtain ⟨a1,c1,a2,c2,a3,c3,a4,c4,a5,c5,h1,h2,h3⟩:=h;exact ⟨a1,c1,a2,c2,a3,c3,a4,c4,a5,c5,by rw [← e k (by simp),h1],by rw [← e l (by simp),h2],h3⟩⟩
def newM (xs ys:List Bool) (is:List Ino) (bs:List Blk):MD:=⟨xs,ys,is,bs,List.replicate 21 false,[],1⟩
def fl21:Array Value:=(fc (List.replicate 21 false)).toArray
theorem zjx {w:World}{lo hi g:Nat}{u v iv bv:Value}{xs ys:List Bool}{is:List Ino}{bs:List Blk}(h:DO w (fun q=>lo<=q/\q < hi) u v iv bv xs ys is bs)(hg:AtC w g 4 fl21)(ha:hi<=g\/g+1<=lo){B:Nat}(hB:B<=lo)(hBg:B<=g) :
  MO w (fun q=>B<=q) u v iv bv (.slice (some ⟨g,0,none⟩) 21 21) (.slice none 0 0) (newM xs ys is bs):=by
 refine ⟨_,fun q=>q=g,fun _=>False,[],h,?_,fun k hk=>?_,GN.nil _ _,fun k hk=>⟨fun e=>by omega,id⟩,fun k hk e=>e,fun k hk=>?_⟩
 ·exact ⟨by rfl,.inr ⟨g,21,fl21,rfl,Nat.zero_le _,hg,Nat.le_refl _,by unfold maxLen;decide,rfl,rfl⟩⟩
 ·simpa [Value.ownBlock] using hk.symm
 ·rcases hk with hk | hk | hk
  ·omega
  ·omega
  ·exact hk.elim
theorem make21 (w:World):(Instr.makeSlice 24 (.int .i64 21) (.int .i64 21)).run Tryz.prog w=.ok (.slice (some ⟨w.heap.size,0,none⟩) 21 21) (w.alloc (.cells fl21 4)):=by
 have:=zgg 21 (by decide) w;rw [zgh _ 21 (fc (List.replicate 21 false)) (by simp [fc])] at this;exact this
theorem zia (u v iv bv:Value)(xs ys:List Bool)(is:List Ino)(bs:List Blk)(w:World)(h:DR w u v iv bv xs ys is bs)(hB:Big 1048576 xs ys is bs) :
  Calls Tryz.prog 44 #[.agg #[u,v,iv,bv]] w fun e w'=>∃ u' v' i' b' d' p',e=.returned (.agg #[u',v',i',b',d',p',.int .i64 1])/\MO w' (fun k=>w.heap.size<=k) u' v' i' b' d' p' (newM xs ys is bs)/\Below w.heap.size w w':=by
 have H:=hide h;have HG:=hide hB;have mk:=make21;obtain ⟨a1,c1,a2,c2,a3,c3,a4,c4,rfl,rfl,rfl,rfl⟩:=h.form;clear hB h;go_enter Tryz.func44,Tryz.ntmps44
 go_wp2_with fail
 have HC:Hid (∀ W,Below ((w.alloc (.cells #[.slice a1 xs.length c1,.slice a2 ys.length c2,.slice a3 is.length c3,.slice a4 bs.length c4] 30)).alloc (.cells noM 33)).drew.heap.size ((w.alloc (.cells #[.slice a1 xs.length c1,.slice a2 ys.length c2,.slice a3 is.length c3,.slice a4 bs.length c4] 30)).alloc (.cells noM 33)).drew W->AtC W w.heap.size 30 #[.slice a1 xs.length c1,.slice a2 ys.length c2,.slice a3 is.length c3,.slice a4 bs.length c4]/\AtC W (w.heap.size+1) 33 noM/\Below w.heap.size w W/\w.heap.size+1+1<=W.heap.size):=fun W b=>by
  have b2:=zac b;have k1:=(AtC.new (w.alloc (.cells #[.slice a1 xs.length c1,.slice a2 ys.length c2,.slice a3 is.length c3,.slice a4 bs.length c4] 30)) 33 noM).over b2;have sz:=b2.size;simp at k1 sz;exact ⟨((AtC.new w 30 _).alloc _).over b2,k1,(((Below.refl _ w).alloc nR _).alloc (by simp) _).trans (b2.mono (by simp;omega)),sz⟩
 refine za4 (by kernel_rfl) [0,1,2,3] [4] (fun i=>match i with|0=>.const [] (.agg #[.slice a1 xs.length c1,.slice a2 ys.length c2,.slice a3 is.length c3,.slice a4 bs.length c4])|1=>MkD 0 xs ys is bs|2=>MkS 21 4 fl21|3=>MkM 1 2 xs.length ys.length is.length bs.length 21|_=>.triv) (fun x=>⟨#[.agg #[.slice a1 xs.length c1,.slice a2 ys.length c2,.slice a3 is.length c3,.slice a4 bs.length c4],.pointer (some ⟨w.heap.size,0,none⟩),.pointer (some ⟨w.heap.size+1,0,none⟩),x 0,x 1,x 2,x 3],[]⟩) (fun i=>match i with|0=>undef|1=>undef|2=>undef|3=>undef|_=>undef) rfl (by kernel_rfl) (by kernel_rfl) (by kernel_rfl) rfl ?_ ?_
 ·intro jo hj so x iw W hd hp K hK;simp only [List.mem_cons,List.not_mem_nil,or_false] at hj;rcases hj with rfl|rfl|rfl|rfl<;>refine wpOp_step (o:=_) rfl fun K' hK'=>?_<;>have HK:=hide (fun (v:Value) (W':World) h1 h2=>hK' _ _ (hK v W' h1 h2))<;>simp only [upd,Nat.reduceEqDiff,if_true,if_false] at HK
  ·have k0:=(HC.out W hp.bel).1;obtain ⟨q0,q1,q2,q3⟩:=AtC.four k0;clear k0;go_simp;exact HK.out _ _ bR rfl
  ·have e0:x 0=.agg #[.slice a1 xs.length c1,.slice a2 ys.length c2,.slice a3 is.length c3,.slice a4 bs.length c4]:=hp.post 0 (hd 0 mz0);have bl:=(HC.out W hp.bel).2.2.1;simp only [e0] at HK ⊢;go_simp;refine (zb2 _ _ _ _ xs ys is bs W (H.out.below bl nR) HG.out).mono ?_;rintro e w6 ⟨p1,p2,p3,p4,rfl,O6,B6⟩;obtain ⟨b1,d1,b2,d2,b3,d3,b4,d4,rfl,rfl,rfl,rfl⟩:=O6.dr.form;go_simp;exact HK.out _ _ B6 ⟨b1,d1,b2,d2,b3,d3,b4,d4,rfl,O6.bound⟩
  ·exact cQ119
  ·have e1:∃ a1 c1 a2 c2 a3 c3 a4 c4,x 1=.agg #[.slice a1 xs.length c1,.slice a2 ys.length c2,.slice a3 is.length c3,.slice a4 bs.length c4]/\DO W (fun q=>(iw 1).1<=q/\q < (iw 1).2) (.slice a1 xs.length c1) (.slice a2 ys.length c2) (.slice a3 is.length c3) (.slice a4 bs.length c4) xs ys is bs:=hp.post 1 (hd 1 mz0);have e2:x 2=.slice (some ⟨(iw 2).1,0,none⟩) 21 21/\(iw 2).2=(iw 2).1+1/\AtC W (iw 2).1 4 fl21:=hp.post 2 (hd 2 mz1);obtain ⟨b1,d1,b2,d2,b3,d3,b4,d4,e1,-⟩:=e1
   replace e2:=e2.1
   have HE:=hide (And.intro e1 e2);simp only [e1,e2] at HK ⊢;clear e1 e2;go_simp;exact HK.out _ _ bR ⟨b1,d1,b2,d2,b3,d3,b4,d4,_,_,by rw [zas _ _ _ _ (by decide)];exact HE.out.1,by rw [zas _ _ _ _ (by decide)];exact HE.out.2,rfl⟩
 ·intro x iw W hp;obtain ⟨b1,d1,b2,d2,b3,d3,b4,d4,e1,O1⟩:=hp.post 1 (by decide);obtain ⟨e2,z2,A2⟩:=hp.post 2 (by decide);obtain ⟨g1,h1,g2,h2,g3,h3,g4,h4,g5,h5,f1,f2,e3⟩:=hp.post 3 (by decide);rw [e1] at f1;rw [e2] at f2;simp only [Value.agg.injEq,Array.mk.injEq,List.cons.injEq,Value.slice.injEq,true_and,and_true] at f1 f2;obtain ⟨⟨rfl,rfl⟩,⟨rfl,rfl⟩,⟨rfl,rfl⟩,rfl,rfl⟩:=f1;obtain ⟨rfl,rfl⟩:=f2;have p12:=hp.apart 1 (by decide) 2 (by decide) (by decide);have l1:=hp.lo 1 (by decide);have l2:=hp.lo 2 (by decide);simp [World.drew] at l1 l2;obtain ⟨-,kR,bel,-⟩:=HC.out W hp.bel;have hM:=zjx O1 A2 (by omega) (B:=w.heap.size+1+1) l1.1 l2.1;obtain ⟨r0,r1,r2,r3,r4,r5,r6⟩:=AtC.sev kR;have v0:=kR.frozen 0;have v1:=kR.frozen 1;have v2:=kR.frozen 2;have v3:=kR.frozen 3;have v4:=kR.frozen 4;have v5:=kR.frozen 5;have v6:=kR.frozen 6;generalize (iw 2).1=g at *;have HM:=hide (And.intro hM bel);clear hp O1 A2 z2 p12 l1 l2 kR bel hM HC mk;simp only [e1,e2,e3];clear e1 e2 e3;go_wp2_with fail
  rw [List.filterMap_nil];go_wp2;refine bodyPost_ret (v:=.agg #[.slice b1 xs.length d1,.slice b2 ys.length d2,.slice b3 is.length d3,.slice b4 bs.length d4,.slice (some ⟨g,0,none⟩) 21 21,.slice none 0 0,.int .i64 1]) (by simp [results,go_sem,r0,r1,r2,r3,r4,r5,r6]) rfl ⟨_,_,_,_,_,_,rfl,?_,?_⟩
  ·exact (HM.out.1.of_heap fun k hk _=>((((((heap_setCell_other _ ⟨w.heap.size+1,6,none⟩ k _ (by show k≠w.heap.size+1;omega)).trans (heap_setCell_other _ ⟨w.heap.size+1,5,none⟩ k _ (by show k≠w.heap.size+1;omega))).trans (heap_setCell_other _ ⟨w.heap.size+1,4,none⟩ k _ (by show k≠w.heap.size+1;omega))).trans (heap_setCell_other _ ⟨w.heap.size+1,3,none⟩ k _ (by show k≠w.heap.size+1;omega))).trans (heap_setCell_other _ ⟨w.heap.size+1,2,none⟩ k _ (by show k≠w.heap.size+1;omega))).trans (heap_setCell_other _ ⟨w.heap.size+1,1,none⟩ k _ (by show k≠w.heap.size+1;omega))).trans (heap_setCell_other _ ⟨w.heap.size+1,0,none⟩ k _ (by show k≠w.heap.size+1;omega))).mono fun k hk=>by omega
  ·exact (((((((HM.out.2).setCell (by simp) _).setCell (by simp) _).setCell (by simp) _).setCell (by simp) _).setCell (by simp) _).setCell (by simp) _).setCell (by simp) _
end Xd
namespace Xd
def MkS1 (k:Nat) (t:ByteArray):Mk:=.val [k] (fun lo hi w v=>v=.slice (some ⟨lo,0,none⟩) 1 1/\hi=lo+1/\AtC w lo 9 #[.string t]) (fun _ _ _ _ _ h hb=>⟨h.1,h.2.1,h.2.2.over hb⟩)
theorem zib {xs ys:List Bool}{is:List Ino}{bs:List Blk}(hok:za5 xs ys is bs=true){j:Nat}(hj:j<=20):(unitB xs ys is bs j).size<=60:=by
 have:=zen xs ys is bs (j:Int);unfold unitT at this;rw [hok] at this;simp only [Bool.true_and] at this;rw [if_pos (by simp;omega)] at this;simpa using this
theorem zjy (S:Nat->Prop)(u v iv bv:Value)(xs ys:List Bool)(is:List Ino)(bs:List Blk)(w:World)(h:DO w S u v iv bv xs ys is bs)(hok:za5 xs ys is bs=true)(hB:∀ (j:Nat) (h:j < bs.length),bigB 1048576 bs[j]) :
  Calls Tryz.prog 42 #[.agg #[u,v,iv,bv]] w fun e w'=>∃ tv ts,e=.returned (.tuple #[.agg #[tv],.bool true])/\ROwns w' w.heap.size 9 tv (stc ts)/\DvOk ts/\Below w.heap.size w w':=by
 have HH:=hide h;have HOK:=hide hok;have HG:=hide hB;obtain ⟨a1,c1,a2,c2,a3,c3,a4,c4,rfl,rfl,rfl,rfl⟩:=h.dr.form;have HTW:Hid (∃ base,Two w base (.slice a1 xs.length c1) (.slice a2 ys.length c2) xs ys):=by
  obtain ⟨T1,T2,T3,ti,tb,k1,-⟩:=h;exact ⟨_,k1⟩
 obtain ⟨base,hTw⟩:=HTW.out;have HTw:=hide hTw;clear hTw HTW;obtain ⟨W0,hW0⟩:∃ W0,((w.alloc (.cells #[.slice a1 xs.length c1,.slice a2 ys.length c2,.slice a3 is.length c3,.slice a4 bs.length c4] 30)).alloc (.cells #[.slice none 0 0] 69))=W0:=⟨_,rfl⟩
 have HC:Hid (∀ W,Below W0.heap.size W0 W->AtC W w.heap.size 30 #[.slice a1 xs.length c1,.slice a2 ys.length c2,.slice a3 is.length c3,.slice a4 bs.length c4]/\AtC W (w.heap.size+1) 69 #[.slice none 0 0]/\Below w.heap.size w W/\w.heap.size+1+1<=W.heap.size):=fun W b2=>by
  rw [← hW0] at b2;have k1:=(AtC.new (w.alloc (.cells #[.slice a1 xs.length c1,.slice a2 ys.length c2,.slice a3 is.length c3,.slice a4 bs.length c4] 30)) 69 #[.slice none 0 0]).over b2;have sz:=b2.size;simp at k1 sz;exact ⟨((AtC.new w 30 _).alloc _).over b2,k1,(((Below.refl _ w).alloc nR _).alloc (by simp) _).trans (b2.mono (by simp;omega)),sz⟩
 have HB0:Hid (Below W0.heap.size W0 W0):=Below.refl _ _;obtain ⟨x0,x1,x2,x3⟩:=AtC.four ((HC.out W0 HB0.out).1);have HD0:Hid (DR W0 (.slice a1 xs.length c1) (.slice a2 ys.length c2) (.slice a3 is.length c3) (.slice a4 bs.length c4) xs ys is bs):=HH.out.dr.below (HC.out W0 HB0.out).2.2.1 nR;have C0:Hid (Calls Tryz.prog 58 #[.agg #[.slice a1 xs.length c1,.slice a2 ys.length c2,.slice a3 is.length c3,.slice a4 bs.length c4]] W0 fun e w'=>e=.returned (.bool true)/\Below W0.heap.size W0 w'):=by
  have:=zcm _ _ _ _ xs ys is bs W0 HD0.out (fun j hj=>(HG.out j hj).2.1);rw [HOK.out] at this;exact this
 clear h hok hB;go_enter Tryz.func42,Tryz.ntmps42
 go_wp2_with fail
 refine C0.out.mono ?_;rintro e w1 ⟨rfl,B1⟩;obtain ⟨bo,hbo⟩:∃ bo,w1.heap.size=bo:=⟨_,rfl⟩
 have hbz:w.heap.size+1+1<=bo:=by rw [← hbo];exact (HC.out w1 B1).2.2.2
 have HR0:Hid (∀ wr,w1.alloc (.cells #[.slice none 0 0] 69)=wr->∃ (l:List ByteArray) (lv:Value),AtC wr bo 69 #[lv]/\ROwns wr (w.heap.size+1+1) 9 lv (stc l)/\(∀ k,lv.ownBlock=some k->k≠bo)/\l.length=0/\(∀ s∈l,s.size<=60)/\AtC wr w.heap.size 30 #[.slice a1 xs.length c1,.slice a2 ys.length c2,.slice a3 is.length c3,.slice a4 bs.length c4]/\AtC wr (w.heap.size+1) 69 #[.slice none 0 0]/\Below w.heap.size w wr):=by
  rintro wr rfl;have b2:=B1.alloc B1.size (.cells #[.slice none 0 0] 69);obtain ⟨k1,k2,k3,k4⟩:=HC.out _ b2;refine ⟨[],.slice none 0 0,?_,ROwns.nil _ _ _,fun k hk=>by simp [Value.ownBlock] at hk,rfl,fun s hs=>by simp at hs,k1,k2,k3⟩;rw [← hbo];exact AtC.new w1 69 _
 clear B1 HC HB0 x0 x1 x2 x3 hW0 C0 HD0;go_wp2_with fail
 generalize hwa:w1.alloc (.cells #[.slice none 0 0] 69)=wa at *;have HRA:=hide (HR0.out wa rfl);clear HR0 hwa hbo;go_loopw [5] (fun i wr=>∃ j:Nat,j<=21/\i=.int .i64 j/\Hid (∃ (l:List ByteArray) (lv:Value),AtC wr bo 69 #[lv]/\ROwns wr (w.heap.size+1+1) 9 lv (stc l)/\(∀ k,lv.ownBlock=some k->k≠bo)/\l.length=j/\(∀ s∈l,s.size<=60)/\AtC wr w.heap.size 30 #[.slice a1 xs.length c1,.slice a2 ys.length c2,.slice a3 is.length c3,.slice a4 bs.length c4]/\AtC wr (w.heap.size+1) 69 #[.slice none 0 0]/\Below w.heap.size w wr)) (fun i _=>21 - (intOf i).toNat)
 case atStart=>exact ⟨0,by omega,rfl,HRA.out⟩
 case round =>
  obtain ⟨j,hj,rfl,HR⟩:=hrel;obtain ⟨l,lv,hrr⟩:=HR.out;have HQ:=hide hrr;clear hrr HR HRA;obtain ⟨la,lc,rfl,-⟩:=HQ.out.2.1.form;obtain ⟨ln,hln⟩:∃ ln,(stc l).length=ln:=⟨_,rfl⟩
  rw [hln] at HQ;have HLN:=hide hln;clear hln;by_cases hlt:j < 21
  rotate_left
  ·have j1:¬ ((j:Int) < 21):=by omega
   have x0:=HQ.out.1.c0;have r0:=HQ.out.2.2.2.2.2.2.1.c0;have v0:=HQ.out.2.2.2.2.2.2.1.frozen 0;go_wp2;refine bodyPost_ret (v:=.tuple #[.agg #[.slice la ln lc],.bool true]) (by simp [results,go_sem,r0]) rfl ⟨_,rfl,l,?_,⟨by have:=HQ.out.2.2.2.1;omega,fun k hk=>by have:=HQ.out.2.2.2.2.1 _ (List.getElem_mem hk);omega⟩,?_⟩
   ·exact (HQ.out.2.1.of_heap fun k hk=>heap_setCell_other _ ⟨w.heap.size+1,0,none⟩ k _ (by have:=(HQ.out.2.1.lt k hk).1;show k≠w.heap.size+1;omega)).base_le (by omega)
   ·exact HQ.out.2.2.2.2.2.2.2.setCell (by show w.heap.size<=w.heap.size+1;omega) _
  have j1:(j:Int) < 21:=by omega
  obtain ⟨t,ht⟩:∃ t,unitB xs ys is bs j=t:=⟨_,rfl⟩
  have HTS:Hid (t.size<=60):=by rw [← ht];exact zib HOK.out (by omega)
  have CU:Hid (∀ W,Below wr.heap.size wr W->Calls Tryz.prog 59 #[.agg #[.slice a1 xs.length c1,.slice a2 ys.length c2,.slice a3 is.length c3,.slice a4 bs.length c4],.int .i64 j] W fun e w'=>e=.returned (.string t)/\Below W.heap.size W w'):=fun W b=>by
   rw [← ht];have bw:Below w.heap.size w W:=HQ.out.2.2.2.2.2.2.2.trans (b.mono HQ.out.2.2.2.2.2.2.2.size);have o2:Two W base (.slice a1 xs.length c1) (.slice a2 ys.length c2) xs ys:=HTw.out.below bw nR;exact zdg _ _ _ _ xs ys is bs j base W (HH.out.dr.below bw nR) o2 HOK.out (by omega) HG.out
  clear ht;have HC2:Hid (∀ W,Below wr.drew.heap.size wr.drew W->AtC W bo 69 #[.slice la ln lc]/\AtC W w.heap.size 30 #[.slice a1 xs.length c1,.slice a2 ys.length c2,.slice a3 is.length c3,.slice a4 bs.length c4]/\AtC W (w.heap.size+1) 69 #[.slice none 0 0]/\ROwns W (w.heap.size+1+1) 9 (.slice la ln lc) (stc l)/\Below w.heap.size w W/\wr.heap.size<=W.heap.size):=fun W b=>by
   have b2:=zac b;obtain ⟨k1,k2,-,-,-,k5,k6,k7⟩:=HQ.out;exact ⟨k1.over b2,k5.over b2,k6.over b2,k2.below b2 nR,k7.trans (b2.mono k7.size),b2.size⟩
  go_upto_region 7 with fail
  refine za4 (by kernel_rfl) [0,1,2,3,4,5] [6,7,8] (fun i=>match i with|0=>.const [] (.pointer (some ⟨bo,0,none⟩))|1=>.const [0] (.slice la ln lc)|2=>.const [] (.agg #[.slice a1 xs.length c1,.slice a2 ys.length c2,.slice a3 is.length c3,.slice a4 bs.length c4])|3=>.const [] (.int .i64 (j:Int))|4=>.const [2,3] (.string t)|5=>MkS1 4 t|_=>.triv) (fun x=>⟨#[.agg #[.slice a1 xs.length c1,.slice a2 ys.length c2,.slice a3 is.length c3,.slice a4 bs.length c4],.pointer (some ⟨w.heap.size,0,none⟩),.pointer (some ⟨w.heap.size+1,0,none⟩),.bool false,.pointer (some ⟨bo,0,none⟩),.int .i64 ↑j,.agg #[.slice a1 xs.length c1,.slice a2 ys.length c2,.slice a3 is.length c3,.slice a4 bs.length c4],.bool true,.bool false,undef,.agg #[.slice none 0 0],.int .i64 ↑j,.bool true,u13,u14,x 0,x 1,x 2,x 3,x 4,x 5,u21,u22,undef],[]⟩) (fun i=>match i with|0=>u15|1=>u16|2=>u17|3=>u18|4=>u19|5=>u20|_=>undef) rfl (by kernel_rfl) (by kernel_rfl) (by kernel_rfl) rfl ?_ ?_
  ·intro jo hj so x iw W hd hp K hK;simp only [List.mem_cons,List.not_mem_nil,or_false] at hj;rcases hj with rfl|rfl|rfl|rfl|rfl|rfl<;>refine wpOp_step (o:=_) rfl fun K' hK'=>?_<;>have HK:=hide (fun (v:Value) (W':World) h1 h2=>hK' _ _ (hK v W' h1 h2))<;>simp only [upd,Nat.reduceEqDiff,if_true,if_false] at HK
   ·exact cQ9
   ·have e0:x 0=.pointer (some ⟨bo,0,none⟩):=hp.post 0 (hd 0 mz0);have q0:=(HC2.out W hp.bel).1.c0;simp only [e0] at HK ⊢;go_simp;exact HK.out _ _ bR rfl
   ·have k0:=(HC2.out W hp.bel).2.1;obtain ⟨q0,q1,q2,q3⟩:=AtC.four k0;clear k0;go_simp;exact HK.out _ _ bR rfl
   ·exact cQ9
   ·have e2:x 2=.agg #[.slice a1 xs.length c1,.slice a2 ys.length c2,.slice a3 is.length c3,.slice a4 bs.length c4]:=hp.post 2 (hd 2 mz0);have e3:x 3=.int .i64 (j:Int):=hp.post 3 (hd 3 mz1);have bw:=zac hp.bel;simp only [e2,e3] at HK ⊢;clear e2 e3;go_simp;refine (CU.out W bw).mono ?_;rintro e w6 ⟨rfl,B6⟩;go_simp;exact HK.out _ _ B6 rfl
   ·have e4:x 4=.string t:=hp.post 4 (hd 4 mz0);simp only [e4] at HK ⊢;go_simp;exact HK.out _ _ ((Below.refl _ W).alloc nR _) ⟨rfl,by simp,AtC.new W 9 _⟩
  ·intro x iw W hp;have e1:x 1=.slice la ln lc:=hp.post 1 (by decide);obtain ⟨e5,z5,A5⟩:=hp.post 5 (by decide);obtain ⟨k1,k2,k3,k4,k5,k6⟩:=HC2.out W hp.bel;have l5:=hp.lo 5 (by decide);have HW:=hide (And.intro k1 (And.intro k2 (And.intro k3 (And.intro k4 (And.intro k5 k6)))));have HK2:Hid (W.cell? ⟨(iw 5).1,0,none⟩=some (.string t)):=A5.cell 0;have HSZ:Hid (w.heap.size+1+1<=W.heap.size):=by have:=k1.lt;show _<=_;omega
   have HTL:Hid ((stc l).length<=100000000000):=by have:=HQ.out.2.2.2.1;show _<=_;rw [zai];omega
   have q0:=k1.c0;generalize (iw 5).1=g5 at *;clear hp A5 z5 l5 k1 k2 k3 k4 k5 k6 HC2 CU;simp only [e1,e5];clear e1 e5;simp only [List.filterMap_cons,List.filterMap_nil,List.getElem?_toArray,List.getElem?_cons_succ,List.getElem?_cons_zero];refine wpList_step fun K' hK'=>?_;refine zal _ rfl (.tmp 16) (.tmp 20) 67 rfl (w.heap.size+1+1) 9 Tryz.u67 _ 16 Tryz.i9 rfl (by decide) (.slice la ln lc) _ rfl HW.out.2.2.2.1 HSZ.out g5 (.string t) rfl HK2.out rfl HTL.out ?_;intro v12 w12 T12 G12 V12;refine hK' _ _ ?_;obtain ⟨va,vc,hv,-⟩:=T12.form;obtain ⟨n12,hn12⟩:∃ n12,(stc l ++ [Value.string t]).length=n12:=⟨_,rfl⟩
   rw [hn12] at hv;clear hn12;subst hv;have HR12:=hide (And.intro T12 (And.intro G12 V12));have A12:AtC w12 bo 69 #[.slice la ln lc]:=HW.out.1.grown G12 (fun e=>HQ.out.2.2.1 bo e rfl);have y0:=A12.c0;have f0:=A12.frozen 0;have HA12:=hide A12;clear T12 G12 V12 hK' A12;have HREL:Hid (∀ wz,w12.setCell ⟨bo,0,none⟩ (.slice va n12 vc)=wz->∃ (l:List ByteArray) (lv:Value),AtC wz bo 69 #[lv]/\ROwns wz (w.heap.size+1+1) 9 lv (stc l)/\(∀ k,lv.ownBlock=some k->k≠bo)/\l.length=j+1/\(∀ s∈l,s.size<=60)/\AtC wz w.heap.size 30 #[.slice a1 xs.length c1,.slice a2 ys.length c2,.slice a3 is.length c3,.slice a4 bs.length c4]/\AtC wz (w.heap.size+1) 69 #[.slice none 0 0]/\Below w.heap.size w wz):=by
    rintro wz rfl;obtain ⟨k1,k2,k3,k4,k5,k6⟩:=HW.out;obtain ⟨T12,G12,V12⟩:=HR12.out;have own:∀ k,(Value.slice va n12 vc).ownBlock=some k->k≠bo:=fun k hk=>(V12 k hk).elim (fun e=>HQ.out.2.2.1 k e) (fun e=>by have:=k1.lt;omega);have low:∀ k,(Value.slice la ln lc).ownBlock=some k->w.heap.size+1+1<=k:=fun k hk=>(k4.lt k hk).1;have lt2:w.heap.size+1 < W.heap.size:=k3.lt;refine ⟨l ++ [t],.slice va n12 vc,HA12.out.set 0 _,?_,own,by rw [List.length_append,HQ.out.2.2.2.1];rfl,fun s hs=>?_,?_,?_,?_⟩
    ·rw [za6];exact T12.of_heap fun k hk=>heap_setCell_other _ ⟨bo,0,none⟩ k _ (own k hk)
    ·rcases List.mem_append.mp hs with e | e
     ·exact HQ.out.2.2.2.2.1 s e
     ·simp only [List.mem_cons,List.not_mem_nil,or_false] at e;subst e;exact HTS.out
    ·exact (k2.grown G12 (fun e=>by have:=low _ e;omega)).other (by omega) _
    ·exact (k3.grown G12 (fun e=>by have:=low _ e;omega)).other (by omega) _
    ·exact (k5.trans ⟨G12.os,G12.tape,G12.output,G12.size,fun k hk=>G12.block k (by have:=k5.size;omega) (fun e=>by have:=low k e.symm;omega)⟩).setCell (by show w.heap.size<=bo;omega) _
   try rw [List.filterMap_nil]
   go_wp2;go_roundw
   case rel=>exact ⟨j+1,by omega,by go_num,HREL.out _ rfl⟩
   case measure=>simp [intOf];omega
end Xd
namespace Xd
theorem newOk:za5 newX newY newIs newBs=true:=by decide +kernel
theorem newBig:∀ (j:Nat) (h:j < newBs.length),bigB 1048576 newBs[j]:=fun j h=>by
 have e:newBs[j]=zB:=List.eq_of_mem_replicate (List.getElem_mem h);rw [e];exact ⟨by decide,fun k hk=>by simp [zB] at hk,by decide⟩
theorem newDBig:Big 1048576 newX newY newIs newBs:=⟨by decide,by decide,by decide,fun j hj=>by
 have:∀ q∈newIs,q.2.2.length<=1048576:=by decide
 exact this _ (List.getElem_mem hj),by decide,newBig⟩
theorem sh_new:Sh Z0 (newM newX newY newIs newBs):=by
 refine ⟨rfl,rfl,rfl,?_,rfl,?_,rfl,by decide,fun d hd=>by simp [newM] at hd,by simp [newM],⟨?_,fun _ _ e=>e.elim⟩⟩
 ·have:∀ q∈newIs,(0<=q.2.1/\q.2.1<=200)/\q.2.2.length=2/\∀ p∈q.2.2,(0:Int)<=p/\p<=16:=by decide
  exact fun q hq=>⟨(this q hq).1,(this q hq).2.1,(this q hq).2.2⟩
 ·intro q hq;have e:q=zB:=by simp [newM,newBs] at hq;exact hq
  subst e;exact ⟨fun e=>by simp [zB] at e,by decide,fun s hs=>by simp [zB] at hs,by decide⟩
 ·intro p p1 p2;have e:pc p newIs=0:=by
   simp [pc,newIs,noI,List.count_cons];omega
  show pc p newIs+0<=_;omega
theorem fsNew_any (w:World) :
  Calls Tryz.prog 37 #[] w fun e w'=>∃ a,e=.returned a/\FsW w' w.heap.size a/\Below w.heap.size w w':=by
 obtain ⟨W0,hW0⟩:∃ W0,w.alloc (.cells #[.slice none 0 0,.slice none 0 0,.slice none 0 0,.slice none 0 0,.slice none 0 0,.slice none 0 0,.int .i64 0,.slice none 0 0] 71)=W0:=⟨_,rfl⟩
 have HC:Hid (∀ W,Below W0.heap.size W0 W->AtC W w.heap.size 71 #[.slice none 0 0,.slice none 0 0,.slice none 0 0,.slice none 0 0,.slice none 0 0,.slice none 0 0,.int .i64 0,.slice none 0 0]/\Below w.heap.size w W/\w.heap.size+1<=W.heap.size):=fun W b2=>by
  rw [← hW0] at b2;have sz:=b2.size;simp at sz;exact ⟨(AtC.new w 71 _).over b2,((Below.refl _ w).alloc nR _).trans (b2.mono (by simp)),sz⟩
 go_enter Tryz.func37,Tryz.ntmps37
 go_wp2_with fail
 refine (zdl W0).mono ?_;rintro e w1 ⟨u1,u2,u3,u4,rfl,O1,B1⟩;go_wp2_with fail
 refine (zjy _ _ _ _ _ newX newY newIs newBs w1 O1 newOk newBig).mono ?_;rintro e w2 ⟨tv,ts,rfl,T2,D2,B2⟩;have HB2:Hid (Below W0.heap.size W0 w2):=B1.trans (B2.mono B1.size);obtain ⟨ta,tc,rfl⟩:=T2.rst.form;have HD2:=hide D2;obtain ⟨W4,hW4⟩:∃ W4,w2.alloc (.cells #[.slice ta ts.length tc] 69)=W4:=⟨_,rfl⟩
 have HB4:Hid (Below W0.heap.size W0 W4/\ROwns W4 w1.heap.size 9 (.slice ta ts.length tc) (stc ts)/\AtC W4 w2.heap.size 69 #[.slice ta ts.length tc]/\W0.heap.size<=w1.heap.size):=by
  rw [← hW4];exact ⟨HB2.out.alloc HB2.out.size _,T2.alloc _,AtC.new w2 69 _,B1.size⟩
 clear O1 B1 T2 D2 B2 HB2;have HF:Hid (∀ W,Below W4.drew.heap.size W4.drew W->Below W0.heap.size W0 W/\ROwns W w1.heap.size 9 (.slice ta ts.length tc) (stc ts)/\AtC W w2.heap.size 69 #[.slice ta ts.length tc]/\W4.heap.size<=W.heap.size):=fun W b=>by
  have b5:=zac b;exact ⟨HB4.out.1.trans (b5.mono HB4.out.1.size),HB4.out.2.1.below b5 nR,HB4.out.2.2.1.over b5,b5.size⟩
 have y4:=HB4.out.2.2.1.c0;go_upto_region 2 with fail
 go_region_with (first
  | (go_at_call 43;refine (zdl _).mono ?_;rintro e w5 ⟨p1,p2,p3,p4,rfl,O5,B5⟩;obtain ⟨g1,h1,g2,h2,g3,h3,g4,h4,rfl,rfl,rfl,rfl⟩:=O5.dr.form;have HB5:Hid (Below W4.drew.heap.size W4.drew w5):=B5;have HO5:=hide O5;have y5:w5.cell? ⟨w2.heap.size,0,none⟩=some (.slice ta ts.length tc):=(HF.out w5 B5).2.2.1.cell 0;clear O5 B5)
  | (go_at_call 44;refine (zia _ _ _ _ newX newY newIs newBs _ HO5.out.dr newDBig).mono ?_;rintro e w6 ⟨q1,q2,q3,q4,q5,q6,rfl,O6,B6⟩;obtain ⟨b1,d1,b2,d2,b3,d3,b4,d4,b5,d5,b6,d6,rfl,rfl,rfl,rfl,rfl,rfl⟩:=O6.mr.form;have HB6:Hid (Below W4.drew.heap.size W4.drew w6):=HB5.out.trans (B6.mono HB5.out.size);have HF6:=hide (HF.out w6 HB6.out);have y6:w6.cell? ⟨w2.heap.size,0,none⟩=some (.slice ta ts.length tc):=HF6.out.2.2.1.cell 0;have r0:w6.cell? ⟨w.heap.size,0,none⟩=some (.slice none 0 0):=(HC.out w6 HF6.out.1).1.cell 0;have r1:w6.cell? ⟨w.heap.size,1,none⟩=some (.slice none 0 0):=(HC.out w6 HF6.out.1).1.cell 1;have r2:w6.cell? ⟨w.heap.size,2,none⟩=some (.slice none 0 0):=(HC.out w6 HF6.out.1).1.cell 2;have r3:w6.cell? ⟨w.heap.size,3,none⟩=some (.slice none 0 0):=(HC.out w6 HF6.out.1).1.cell 3;have r4:w6.cell? ⟨w.heap.size,4,none⟩=some (.slice none 0 0):=(HC.out w6 HF6.out.1).1.cell 4;have r5:w6.cell? ⟨w.heap.size,5,none⟩=some (.slice none 0 0):=(HC.out w6 HF6.out.1).1.cell 5;have r6:w6.cell? ⟨w.heap.size,6,none⟩=some (.int .i64 0):=(HC.out w6 HF6.out.1).1.cell 6;have r7:w6.cell? ⟨w.heap.size,7,none⟩=some (.slice none 0 0):=(HC.out w6 HF6.out.1).1.cell 7;have v0:=(HC.out w6 HF6.out.1).1.frozen 0;have v1:=(HC.out w6 HF6.out.1).1.frozen 1;have v2:=(HC.out w6 HF6.out.1).1.frozen 2;have v3:=(HC.out w6 HF6.out.1).1.frozen 3;have v4:=(HC.out w6 HF6.out.1).1.frozen 4;have v5:=(HC.out w6 HF6.out.1).1.frozen 5;have v6:=(HC.out w6 HF6.out.1).1.frozen 6;have v7:=(HC.out w6 HF6.out.1).1.frozen 7;have HO6:Hid (MO w6 (fun k=>W4.heap.size<=k) (.slice b1 (newM newX newY newIs newBs).xs.length d1) (.slice b2 (newM newX newY newIs newBs).ys.length d2) (.slice b3 (newM newX newY newIs newBs).is.length d3) (.slice b4 (newM newX newY newIs newBs).bs.length d4) (.slice b5 (newM newX newY newIs newBs).fs.length d5) (.slice b6 (newM newX newY newIs newBs).ds.length d6) (newM newX newY newIs newBs)):=O6.mono (fun k hk=>Nat.le_trans HB5.out.size hk);clear O6 B6))
 all_goals go_wp2
 all_goals exact bodyPost_ret (v:=.agg #[.slice b1 (newM newX newY newIs newBs).xs.length d1,.slice b2 (newM newX newY newIs newBs).ys.length d2,.slice b3 (newM newX newY newIs newBs).is.length d3,.slice b4 (newM newX newY newIs newBs).bs.length d4,.slice b5 (newM newX newY newIs newBs).fs.length d5,.slice b6 (newM newX newY newIs newBs).ds.length d6,.int .i64 1,.slice ta ts.length tc]) (by simp [results,go_sem,r0,r1,r2,r3,r4,r5,r6,r7]) rfl ⟨_,rfl,⟨b1,d1,b2,d2,b3,d3,b4,d4,b5,d5,b6,d6,ta,tc,newM newX newY newIs newBs,ts,rfl,(HO6.out.of_heap fun k hk _=>zag _ _ _ _ _ _ _ _ _ _ k (by have:=(HC.out w6 HF6.out.1).2.2;have:W4.heap.size<=k:=hk;have:=HB4.out.1.size;have:=(HC.out W0 bR).2.2;omega)).mono (fun k hk=>by have:W4.heap.size<=k:=hk;have:=HB4.out.1.size;have:=(HC.out W0 bR).2.2;omega),(HF6.out.2.1.of_heap fun k hk=>zag _ _ _ _ _ _ _ _ _ _ k (by have:=(HF6.out.2.1.lt k hk).1;have:=HB4.out.2.2.2;have:=(HC.out W0 bR).2.2;omega)).base_le (by have:=HB4.out.2.2.2;have:=(HC.out W0 bR).2.2;omega),sh_new,HD2.out⟩,zaq (HC.out w6 HF6.out.1).2.1 nR _ _ _ _ _ _ _ _⟩
end Xd
theorem za0 {w0 w W:World}{c:Nat}{a:Option Addr}{len cap:Nat}(hd:Drew w0 w W c a len cap)(hc:c < w.heap.size){g:Nat}(hg:w.heap.size<=g)(hz:w0.heap.size<=g)(i:Nat)(x:Value):Drew w0 w (W.setCell ⟨g,i,none⟩ x) c a len cap:=by
 obtain ⟨⟨k1,k2,j,y,k3,k4⟩,hr⟩:=hd;have ho:∀ k,k≠g->(W.setCell ⟨g,i,none⟩ x).heap[k]?=W.heap[k]?:=fun k hk=>heap_setCell_other W ⟨g,i,none⟩ k _ hk;exact ⟨⟨k1,k2.setCell (p:=⟨g,i,none⟩) hz _,j,y,(ho c (by omega)).trans k3,k4⟩,⟨hr.os,hr.tape,hr.output,Nat.le_trans hr.size (by simp),fun k hk hn=>(ho k (by omega)).trans (hr.block k hk hn)⟩⟩
theorem zic {w0 w W W':World}{c b:Nat}{a:Option Addr}{len cap:Nat}(hd:Drew w0 w W c a len cap)(hc:c < w.heap.size)(hb:w.heap.size<=b)(hz:w0.heap.size<=b)(hg:W.grownBy W' (some b)):Drew w0 w W' c a len cap:=by
 obtain ⟨⟨k1,k2,j,y,k3,k4⟩,hr⟩:=hd;have hs:=hr.size;exact ⟨⟨k1,k2.grown hg k2.size (fun k hk=>by simp at hk;omega),j,y,(hg.block c (by omega) (by simp;omega)).trans k3,k4⟩,⟨hg.os.trans hr.os,hg.tape.trans hr.tape,hg.output.trans hr.output,Nat.le_trans hr.size hg.size,fun k hk hn=>(hg.block k (by omega) (by simp;omega)).trans (hr.block k hk hn)⟩⟩
theorem MO.ownF {w:World}{S:Nat->Prop}{u v iv bv dv pv:Value}{m:MD}(h:MO w S u v iv bv dv pv m):ROwns w 0 4 dv (fc m.fs)/\∀ k,dv.ownBlock=some k->S k:=by
 obtain ⟨S1,S2,S3,ts,-,k2,k3,-,-,-,k7⟩:=h;exact ⟨k2,fun k hk=>k7 k (.inr (.inl (k3 k hk)))⟩
theorem zjz {w w':World}{B b n c:Nat}{a1 a2 a3 a4 a5 a6 ta ma ka pa:Option Addr}{c1 c2 c3 c4 c5 c6 tc mc kc pl pc:Nat}{m:MD}{ts:List ByteArray}{ns:List Nd}{cs:List Int}(h:Wp w B b n a1 a2 a3 a4 a5 a6 ta ma ka pa c1 c2 c3 c4 c5 c6 tc mc kc pl pc m ts ns cs)(hg:w.grownBy w' (some c))(hc:c < B):Wp w' B b n a1 a2 a3 a4 a5 a6 ta ma ka pa c1 c2 c3 c4 c5 c6 tc mc kc pl pc m ts ns cs :=
 ⟨(h.mo.bound.of_heap (fun k hk _=>hg.block k hk.2 (by have:=hk.1.1;simp;omega))).mono (fun _ hk=>hk.1),h.sh,h.dv.grown hg (fun k hk=>by have:=(h.dv.lt k hk).1;simp;omega),h.dn,h.dk,h.nd.of_heap (fun k hk=>hg.block k (h.nd.lt k hk).2 (by have:=(h.nd.lt k hk).1;simp;omega)),h.nn,h.nl,h.nb,h.co.grown hg (fun k hk=>by have:=(h.co.lt k hk).1;simp;omega),h.cn,h.cl⟩
theorem fs_any (w0 w:World)(c:Nat)(a:Option Addr)(len cap:Nat)(hcode:zbg w0 a len)(hlen:len<=1048576)(hcur:Cur 74 w0 w c a len cap)(hc:c < w.heap.size) :
  Calls Tryz.prog 28 #[.pointer (some ⟨c,0,none⟩)] w fun e w'=>∃ fv,e=.returned fv/\FsW w' w.heap.size fv/\Drew w0 w w' c a len cap:=by
 obtain ⟨W0,hW0⟩:∃ W0,w.alloc (.cells #[.slice none 0 0,.slice none 0 0,.slice none 0 0,.slice none 0 0,.slice none 0 0,.slice none 0 0,.int .i64 0,.slice none 0 0] 71)=W0:=⟨_,rfl⟩
 have HW0:Hid (Cur 74 w0 W0 c a len cap/\AtC W0 w.heap.size 71 #[.slice none 0 0,.slice none 0 0,.slice none 0 0,.slice none 0 0,.slice none 0 0,.slice none 0 0,.int .i64 0,.slice none 0 0]/\w.grownBy W0 (some c)/\w.heap.size < W0.heap.size):=by
  rw [← hW0];exact ⟨zbp hcur hc _,AtC.new w 71 _,World.grownBy_alloc _ _ _,by simp⟩
 have HO:=hide hcode;clear hcode hcur;go_enter Tryz.func28,Tryz.ntmps28
 go_wp2_with fail
 refine (Xd.fsNew_any W0).mono ?_;rintro e w1 ⟨fa,rfl,⟨n1,o1,n2,o2,n3,o3,n4,o4,n5,o5,n6,o6,n7,o7,mf,tf,rfl,M1,T1,S1,D1⟩,B1⟩;have HG2:Hid (∀ W2 b,w1.alloc (.cells #[.slice n1 mf.xs.length o1,.slice n2 mf.ys.length o2,.slice n3 mf.is.length o3,.slice n4 mf.bs.length o4,.slice n5 mf.fs.length o5,.slice n6 mf.ds.length o6,.int .i64 mf.nx,.slice n7 tf.length o7,.slice none 0 0,.slice none 0 0,.slice none 0 0] 89)=W2->w1.heap.size=b->WB W2 (w.heap.size+1) b 0/\Drew w0 w W2 c a len cap/\AtC W2 w.heap.size 71 #[.slice none 0 0,.slice none 0 0,.slice none 0 0,.slice none 0 0,.slice none 0 0,.slice none 0 0,.int .i64 0,.slice none 0 0]/\w.heap.size < b):=by
  rintro W2 b rfl rfl;obtain ⟨k1,k2,k3,k4⟩:=HW0.out;have z1:=B1.size;have bb:Below w1.heap.size w1 (w1.alloc (.cells #[.slice n1 mf.xs.length o1,.slice n2 mf.ys.length o2,.slice n3 mf.is.length o3,.slice n4 mf.bs.length o4,.slice n5 mf.fs.length o5,.slice n6 mf.ds.length o6,.int .i64 mf.nx,.slice n7 tf.length o7,.slice none 0 0,.slice none 0 0,.slice none 0 0] 89)):=(Below.refl _ w1).alloc nR _;refine ⟨⟨n1,n2,n3,n4,n5,n6,n7,none,none,none,o1,o2,o3,o4,o5,o6,o7,0,0,0,0,mf,tf,[],[],AtC.new w1 89 _,⟨(M1.bound.below bb nR).mono (fun k hk=>by have:W0.heap.size<=k/\k < w1.heap.size:=hk;exact ⟨by omega,by omega⟩),S1,(T1.below bb nR).base_le (by omega),fun k hk=>by have:=(T1.lt k hk).2;omega,D1,NdO.nil _ _,fun k hk=>by simp [Value.ownBlock] at hk,Nat.le_refl _,fun x hx=>by simp at hx,World.ownsRow_nil _ _ _ _,fun k hk=>by simp [Value.ownBlock] at hk,Nat.le_refl _⟩,by omega⟩,?_,(k2.over B1).over bb,by omega⟩;obtain ⟨j1,j2,i,x,j3,j4⟩:=k1;have b12:Below W0.heap.size W0 (w1.alloc (.cells #[.slice n1 mf.xs.length o1,.slice n2 mf.ys.length o2,.slice n3 mf.is.length o3,.slice n4 mf.bs.length o4,.slice n5 mf.fs.length o5,.slice n6 mf.ds.length o6,.int .i64 mf.nx,.slice n7 tf.length o7,.slice none 0 0,.slice none 0 0,.slice none 0 0] 89)):=B1.trans (bb.mono z1);have hs:=j2.size;exact ⟨⟨j1,j2.trans (b12.mono hs),i,x,(b12.block c (by omega)).trans j3,j4⟩,zad k3 (zam b12 _)⟩
 clear M1 T1 S1 D1 B1 HW0;go_wp2_with fail
 clear hW0;generalize hwa:w1.alloc (.cells #[.slice n1 mf.xs.length o1,.slice n2 mf.ys.length o2,.slice n3 mf.is.length o3,.slice n4 mf.bs.length o4,.slice n5 mf.fs.length o5,.slice n6 mf.ds.length o6,.int .i64 mf.nx,.slice n7 tf.length o7,.slice none 0 0,.slice none 0 0,.slice none 0 0] 89)=W2 at *;generalize hba:w1.heap.size=b at *;have HW2:=hide (HG2.out W2 b rfl rfl);clear HG2 hwa hba;have hcb:c≠b:=by have:=HW2.out.2.2.2;omega
 go_loopw [4] (fun i wr=>∃ n:Nat,n<=28/\i=.int .i64 n/\Hid (WB wr (w.heap.size+1) b n/\Drew w0 w wr c a len cap/\AtC wr w.heap.size 71 #[.slice none 0 0,.slice none 0 0,.slice none 0 0,.slice none 0 0,.slice none 0 0,.slice none 0 0,.int .i64 0,.slice none 0 0])) (fun i _=>28 - (intOf i).toNat)
 case atStart=>exact ⟨0,by omega,rfl,HW2.out.1,HW2.out.2.1,HW2.out.2.2.1⟩
 case round =>
  obtain ⟨n,hn,rfl,HR⟩:=hrel;have hwb:w.heap.size < b:=HW2.out.2.2.2;clear HW2;go_wp2_with fail
  refine (zax w0 wr c a len cap 24 HO.out hlen HR.out.2.1.1 (by decide) (by decide)).mono ?_;rintro e w3 ⟨x,hx,rfl,hd3⟩;have HR3:Hid (WB w3 (w.heap.size+1) b n/\Drew w0 w w3 c a len cap/\AtC w3 w.heap.size 71 #[.slice none 0 0,.slice none 0 0,.slice none 0 0,.slice none 0 0,.slice none 0 0,.slice none 0 0,.int .i64 0,.slice none 0 0]):=by
   obtain ⟨k1,k2,k3⟩:=HR.out;have hz:=k2.2.size;refine ⟨?_,⟨hd3.1,zad k2.2 hd3.2⟩,k3.grown hd3.2 (by simp;omega)⟩;obtain ⟨a1,a2,a3,a4,a5,a6,ta,ma,ka,pa,c1,c2,c3,c4,c5,c6,tc,mc,kc,pl,pc,m,ts,ns,cs,h1,h2,h3⟩:=k1;refine ⟨a1,a2,a3,a4,a5,a6,ta,ma,ka,pa,c1,c2,c3,c4,c5,c6,tc,mc,kc,pl,pc,m,ts,ns,cs,h1.grown hd3.2 (by simpa using hcb),?_,h3⟩;exact zjz h2 hd3.2 (by omega)
  clear hd3 HR;by_cases hlt:n < 4+x
  rotate_left
  ·have h1:¬ ((n:Int) < 4+(x:Int)):=by omega
   obtain ⟨a1,a2,a3,a4,a5,a6,ta,ma,ka,pa,c1,c2,c3,c4,c5,c6,tc,mc,kc,pl,pc,m,ts,ns,cs,hbx,hwp,hB⟩:=HR3.out.1;obtain ⟨x0,x1,x2,x3,x4,x5,x6,x7⟩:=AtC.eig hbx;obtain ⟨r0,r1,r2,r3,r4,r5,r6,r7⟩:=AtC.eig HR3.out.2.2;have v0:=HR3.out.2.2.frozen 0;have v1:=HR3.out.2.2.frozen 1;have v2:=HR3.out.2.2.frozen 2;have v3:=HR3.out.2.2.frozen 3;have v4:=HR3.out.2.2.frozen 4;have v5:=HR3.out.2.2.frozen 5;have v6:=HR3.out.2.2.frozen 6;have v7:=HR3.out.2.2.frozen 7;have HE:Hid (Wp w3 (w.heap.size+1) b n a1 a2 a3 a4 a5 a6 ta ma ka pa c1 c2 c3 c4 c5 c6 tc mc kc pl pc m ts ns cs/\Drew w0 w w3 c a len cap):=⟨hwp,HR3.out.2.1⟩
   clear hbx hwp HR3;go_wp2;refine bodyPost_ret (v:=.agg #[.slice a1 m.xs.length c1,.slice a2 m.ys.length c2,.slice a3 m.is.length c3,.slice a4 m.bs.length c4,.slice a5 m.fs.length c5,.slice a6 m.ds.length c6,.int .i64 m.nx,.slice ta ts.length tc]) (by simp [results,go_sem,r0,r1,r2,r3,r4,r5,r6,r7]) rfl ⟨_,rfl,?_,?_⟩
   ·obtain ⟨hwp,hdr⟩:=HE.out;refine ⟨a1,c1,a2,c2,a3,c3,a4,c4,a5,c5,a6,c6,ta,tc,m,ts,rfl,((hwp.mo.of_heap fun k hk _=>zag _ _ _ _ _ _ _ _ _ _ k (by have:w.heap.size+1<=k/\k≠b:=hk;omega)).mono (fun k hk=>by have:w.heap.size+1<=k/\k≠b:=hk;omega)),(hwp.dv.of_heap fun k hk=>zag _ _ _ _ _ _ _ _ _ _ k (by have:=(hwp.dv.lt k hk).1;omega)).base_le (by omega),hwp.sh,hwp.dk⟩
   ·have hz:=HE.out.2.1.1;have hz0:w0.heap.size<=w.heap.size:=by omega
    exact za0 (za0 (za0 (za0 (za0 (za0 (za0 (za0 (HE.out.2) hc nR hz0 _ _) hc nR hz0 _ _) hc nR hz0 _ _) hc nR hz0 _ _) hc nR hz0 _ _) hc nR hz0 _ _) hc nR hz0 _ _) hc nR hz0 _ _
  have h1:(n:Int) < 4+(x:Int):=by omega
  obtain ⟨a1,a2,a3,a4,a5,a6,ta,ma,ka,pa,c1,c2,c3,c4,c5,c6,tc,mc,kc,pl,pc,m,ts,ns,cs,hbx,hwp,hB⟩:=HR3.out.1;obtain ⟨x0,x1,x2,x3,x4,x5,x6,x7,x8,x9,x10⟩:=AtC.elv hbx;have HNX:Hid (NdO w3 (w.heap.size+1) (.slice ma ns.length mc) ns/\c < w.heap.size+1/\ROwns w3 0 4 (.slice a5 m.fs.length c5) (fc m.fs)/\(∀ k,(Value.slice a5 m.fs.length c5).ownBlock=some k->k≠c)/\m.fs.length=21/\ns.length<=900/\NdB (8 * n) ns/\8 * n<=1000000/\c < w3.heap.size):=by
   have hf:=MO.ownF hwp.mo;exact ⟨hwp.nd,by omega,hf.1,fun k hk=>by have:w.heap.size+1<=k/\k≠b:=hf.2 k hk;omega,hwp.sh.f,by have:=hwp.nl;omega,hwp.nb,by omega,by have:=HR3.out.2.1.2.size;omega⟩
  clear hbx hwp hB;go_wp2_with fail
  refine (next_any (8 * n) w0 c a len cap m ns a1 a2 a3 a4 a5 a6 ta ma ka pa c1 c2 c3 c4 c5 c6 ts.length tc mc cs.length kc pl pc (w.heap.size+1) w3 HO.out hlen HR3.out.2.1.1 HNX.out.2.2.2.2.2.2.2.2 HNX.out.1 HNX.out.2.1 HNX.out.2.2.1 HNX.out.2.2.2.1 HNX.out.2.2.2.2.1 HNX.out.2.2.2.2.2.1 HNX.out.2.2.2.2.2.2.1 HNX.out.2.2.2.2.2.2.2.1).mono ?_;rintro e w4 ⟨⟨kd,p,q,at_,tx,rfl,hk1,hk7,hp,hq,ht⟩,hd4⟩;have HR4:Hid (WB w4 (w.heap.size+1) b n/\Drew w0 w w4 c a len cap/\AtC w4 w.heap.size 71 #[.slice none 0 0,.slice none 0 0,.slice none 0 0,.slice none 0 0,.slice none 0 0,.slice none 0 0,.int .i64 0,.slice none 0 0]):=by
   obtain ⟨k1,k2,k3⟩:=HR3.out;refine ⟨?_,⟨hd4.1,zad k2.2 hd4.2⟩,k3.grown hd4.2 (by simp;omega)⟩;obtain ⟨a1,a2,a3,a4,a5,a6,ta,ma,ka,pa,c1,c2,c3,c4,c5,c6,tc,mc,kc,pl,pc,m,ts,ns,cs,h1,h2,h3⟩:=k1;exact ⟨a1,a2,a3,a4,a5,a6,ta,ma,ka,pa,c1,c2,c3,c4,c5,c6,tc,mc,kc,pl,pc,m,ts,ns,cs,h1.grown hd4.2 (by simpa using hcb),zjz h2 hd4.2 (by omega),h3⟩
  clear hd4 HR3 HNX x0 x1 x2 x3 x4 x5 x6 x7 x8 x9 x10;have hn100:n<=100:=by omega
  go_wp2_with fail
  refine (do_any (w.heap.size+1) b n kd p q at_ tx w4 HR4.out.1 hn100 hk1 hk7 hp hq ht).mono ?_;rintro e w5 ⟨rfl,hW5,hg5⟩;have HR5:Hid (WB w5 (w.heap.size+1) b (n+1)/\Drew w0 w w5 c a len cap/\AtC w5 w.heap.size 71 #[.slice none 0 0,.slice none 0 0,.slice none 0 0,.slice none 0 0,.slice none 0 0,.slice none 0 0,.int .i64 0,.slice none 0 0]):=by
   obtain ⟨k1,k2,k3⟩:=HR4.out;have hz:=k2.1.1;exact ⟨hW5,zic k2 hc (by omega) (by omega) hg5,k3.grown hg5 (by simp;omega)⟩
  clear hW5 hg5 HR4;go_wp2;go_roundw
  case rel=>exact ⟨n+1,by omega,by go_num,HR5.out⟩
  case measure=>simp [intOf];omega
def MemW (w:World) (B:Nat) (e:Ending):Prop:=∃ (n1:Option Addr) (o1:Nat) (n2:Option Addr) (o2:Nat) (n3:Option Addr) (o3:Nat) (n4:Option Addr) (o4:Nat) (n5:Option Addr) (o5:Nat) (n6:Option Addr) (o6:Nat) (mf:MD),e=.returned (.agg #[.slice n1 mf.xs.length o1,.slice n2 mf.ys.length o2,.slice n3 mf.is.length o3,.slice n4 mf.bs.length o4,.slice n5 mf.fs.length o5,.slice n6 mf.ds.length o6,.int .i64 mf.nx])/\MO w (fun k=>B<=k) (.slice n1 mf.xs.length o1) (.slice n2 mf.ys.length o2) (.slice n3 mf.is.length o3) (.slice n4 mf.bs.length o4) (.slice n5 mf.fs.length o5) (.slice n6 mf.ds.length o6) mf/\Sh Z0 mf
theorem mem_any (w0 w:World)(c:Nat)(a:Option Addr)(len cap:Nat)(hcode:zbg w0 a len)(hlen:len<=1048576)(hcur:Cur 74 w0 w c a len cap)(hc:c < w.heap.size) :
  Calls Tryz.prog 13 #[.pointer (some ⟨c,0,none⟩)] w fun e w'=>MemW w' w.heap.size e/\Drew w0 w w' c a len cap:=by
 obtain ⟨W0,hW0⟩:∃ W0,w.alloc (.cells #[.slice none 0 0,.slice none 0 0,.slice none 0 0,.slice none 0 0,.slice none 0 0,.slice none 0 0,.int .i64 0] 33)=W0:=⟨_,rfl⟩
 have HW0:Hid (Cur 74 w0 W0 c a len cap/\AtC W0 w.heap.size 33 #[.slice none 0 0,.slice none 0 0,.slice none 0 0,.slice none 0 0,.slice none 0 0,.slice none 0 0,.int .i64 0]/\w.grownBy W0 (some c)/\W0.heap.size=w.heap.size+1):=by
  rw [← hW0];exact ⟨zbp hcur hc _,AtC.new w 33 _,World.grownBy_alloc _ _ _,by simp⟩
 have HO:=hide hcode;have hc0:c < W0.heap.size:=by have:=HW0.out.2.2.2;omega
 clear hcode hcur;go_enter Tryz.func13,Tryz.ntmps13
 go_wp2_with fail
 refine (fs_any w0 W0 c a len cap HO.out hlen HW0.out.1 hc0).mono ?_;rintro e w1 ⟨fv,rfl,⟨n1,o1,n2,o2,n3,o3,n4,o4,n5,o5,n6,o6,n7,o7,mf,tf,rfl,M1,T1,S1,D1⟩,hd1⟩;obtain ⟨W2,hW2⟩:∃ W2,w1.alloc (.cells #[.slice n1 mf.xs.length o1,.slice n2 mf.ys.length o2,.slice n3 mf.is.length o3,.slice n4 mf.bs.length o4,.slice n5 mf.fs.length o5,.slice n6 mf.ds.length o6,.int .i64 mf.nx,.slice n7 tf.length o7] 71)=W2:=⟨_,rfl⟩
 have HW2:Hid (AtC W2 w1.heap.size 71 #[.slice n1 mf.xs.length o1,.slice n2 mf.ys.length o2,.slice n3 mf.is.length o3,.slice n4 mf.bs.length o4,.slice n5 mf.fs.length o5,.slice n6 mf.ds.length o6,.int .i64 mf.nx,.slice n7 tf.length o7]/\AtC W2 w.heap.size 33 #[.slice none 0 0,.slice none 0 0,.slice none 0 0,.slice none 0 0,.slice none 0 0,.slice none 0 0,.int .i64 0]/\MO W2 (fun k=>W0.heap.size<=k) (.slice n1 mf.xs.length o1) (.slice n2 mf.ys.length o2) (.slice n3 mf.is.length o3) (.slice n4 mf.bs.length o4) (.slice n5 mf.fs.length o5) (.slice n6 mf.ds.length o6) mf/\Sh Z0 mf/\Drew w0 w W2 c a len cap/\w.heap.size < w1.heap.size):=by
  obtain ⟨k1,k2,k3,k4⟩:=HW0.out;have hz:=hd1.2.size;rw [← hW2];exact ⟨AtC.new w1 71 _,(k2.grown hd1.2 (by simp;omega)).alloc _,M1.alloc _,S1,Drew.alloc ⟨hd1.1,zad k3 hd1.2⟩ hc _,by omega⟩
 obtain ⟨x0,x1,x2,x3,x4,x5,x6,x7⟩:=AtC.eig HW2.out.1;obtain ⟨r0,r1,r2,r3,r4,r5,r6⟩:=AtC.sev HW2.out.2.1;have v0:=HW2.out.2.1.frozen 0;have v1:=HW2.out.2.1.frozen 1;have v2:=HW2.out.2.1.frozen 2;have v3:=HW2.out.2.1.frozen 3;have v4:=HW2.out.2.1.frozen 4;have v5:=HW2.out.2.1.frozen 5;have v6:=HW2.out.2.1.frozen 6;have hz0:Hid (W0.heap.size=w.heap.size+1):=HW0.out.2.2.2;clear M1 T1 S1 D1 hd1 HW0;go_wp2;refine bodyPost_ret (v:=.agg #[.slice n1 mf.xs.length o1,.slice n2 mf.ys.length o2,.slice n3 mf.is.length o3,.slice n4 mf.bs.length o4,.slice n5 mf.fs.length o5,.slice n6 mf.ds.length o6,.int .i64 mf.nx]) (by simp [results,go_sem,r0,r1,r2,r3,r4,r5,r6]) rfl ⟨⟨n1,o1,n2,o2,n3,o3,n4,o4,n5,o5,n6,o6,mf,rfl,(HW2.out.2.2.1.of_heap fun k hk _=>zaa _ _ _ _ _ _ _ _ _ k (by have:W0.heap.size<=k:=hk;have:=hz0.out;omega)).mono (fun k hk=>by have:W0.heap.size<=k:=hk;have:=hz0.out;omega),HW2.out.2.2.2.1⟩,?_⟩;have hz:=HW2.out.2.2.2.2.1.1.1;have hz1:w0.heap.size<=w.heap.size:=by omega
 exact za0 (za0 (za0 (za0 (za0 (za0 (za0 (HW2.out.2.2.2.2.1) hc nR hz1 _ _) hc nR hz1 _ _) hc nR hz1 _ _) hc nR hz1 _ _) hc nR hz1 _ _) hc nR hz1 _ _) hc nR hz1 _ _
theorem zgs (w:World)(a:Option Addr)(len cap:Nat)(hcode:zbg w a len)(hlen:len<=1048576) :
  Calls Tryz.prog 5 #[.slice a len cap] w fun e w'=>MemW w' w.heap.size e/\Below w.heap.size w w':=by
 obtain ⟨W0,hW0⟩:∃ W0,w.alloc (.cells #[.slice none 0 0,.slice none 0 0,.slice none 0 0,.slice none 0 0,.slice none 0 0,.slice none 0 0,.int .i64 0] 33)=W0:=⟨_,rfl⟩
 have HW0:Hid (AtC W0 w.heap.size 33 #[.slice none 0 0,.slice none 0 0,.slice none 0 0,.slice none 0 0,.slice none 0 0,.slice none 0 0,.int .i64 0]/\Below w.heap.size w W0/\W0.heap.size=w.heap.size+1):=by
  rw [← hW0];exact ⟨AtC.new w 33 _,(Below.refl _ w).alloc nR _,by simp⟩
 have HO:Hid (zbg W0 a len):=by
  rw [← hW0];exact zh9 hcode ((Below.refl _ w).alloc nR _)
 clear hcode;go_enter Tryz.func5,Tryz.ntmps5
 go_wp2_with fail
 refine (dNew_any W0 a len cap HO.out hlen).mono ?_;rintro e w1 ⟨rfl,hcur,hlt⟩;have HC:=hide hcur;clear hcur;go_wp2_with fail
 refine (mem_any W0 w1 W0.heap.size a len cap HO.out hlen HC.out hlt).mono ?_;rintro e w2 ⟨⟨n1,o1,n2,o2,n3,o3,n4,o4,n5,o5,n6,o6,mf,rfl,M2,S2⟩,hd2⟩;have HB2:Hid (Below W0.heap.size W0 w2):=hd2.1.2.1;have A2:AtC w2 w.heap.size 33 #[.slice none 0 0,.slice none 0 0,.slice none 0 0,.slice none 0 0,.slice none 0 0,.slice none 0 0,.int .i64 0]:=HW0.out.1.over HB2.out;have HZ:Hid (w.heap.size+1<=w1.heap.size):=by have:=HW0.out.2.2;show _<=_;omega
 obtain ⟨r0,r1,r2,r3,r4,r5,r6⟩:=AtC.sev A2;have v0:=A2.frozen 0;have v1:=A2.frozen 1;have v2:=A2.frozen 2;have v3:=A2.frozen 3;have v4:=A2.frozen 4;have v5:=A2.frozen 5;have v6:=A2.frozen 6;have HM:=hide (And.intro M2 S2);have HBW:Hid (Below w.heap.size w w2):=HW0.out.2.1.trans (HB2.out.mono (by have:=HW0.out.2.2;omega));clear M2 S2 hd2 A2 HC;go_wp2;refine bodyPost_ret (v:=.agg #[.slice n1 mf.xs.length o1,.slice n2 mf.ys.length o2,.slice n3 mf.is.length o3,.slice n4 mf.bs.length o4,.slice n5 mf.fs.length o5,.slice n6 mf.ds.length o6,.int .i64 mf.nx]) (by simp [results,go_sem,r0,r1,r2,r3,r4,r5,r6]) rfl ⟨⟨n1,o1,n2,o2,n3,o3,n4,o4,n5,o5,n6,o6,mf,rfl,(HM.out.1.of_heap fun k hk _=>zaa _ _ _ _ _ _ _ _ _ k (by have:w1.heap.size<=k:=hk;have:=HZ.out;omega)).mono (fun k hk=>by have:w1.heap.size<=k:=hk;have:=HZ.out;omega),HM.out.2⟩,zab HBW.out nR _ _ _ _ _ _ _⟩
open Go.Shelf
attribute [local go_sem] Oper.semAt_some
def lo1 (i:Int) (ds:List Dp):List Int:=(ds.filter fun d=>decide (d.kd=1) && decide (d.io=i)).map (·.pt)
theorem lo1_yes {i:Int}{ds:List Dp}{k:Nat}(h:k < ds.length)(h1:ds[k].kd=1)(h2:ds[k].io=i):lo1 i (ds.take (k+1))=lo1 i (ds.take k) ++ [ds[k].pt]:=by
 unfold lo1;rw [List.take_succ_eq_append_getElem h,List.filter_append,List.map_append];simp [h1,h2]
theorem lo1_no {i:Int}{ds:List Dp}{k:Nat}(h:k < ds.length)(h1:¬ (ds[k].kd=1/\ds[k].io=i)):lo1 i (ds.take (k+1))=lo1 i (ds.take k):=by
 unfold lo1;rw [List.take_succ_eq_append_getElem h,List.filter_append,List.map_append];by_cases e:ds[k].kd=1
 ·have q:¬ ds[k].io=i:=fun q=>h1 ⟨e,q⟩;simp [q]
 ·simp [e]
theorem lo1_len (i:Int)(ds:List Dp)(k:Nat):(lo1 i (ds.take k)).length<=k:=by
 unfold lo1;rw [List.length_map];exact Nat.le_trans (List.length_filter_le _ _) (by simp;omega)
def KpX (g n:Nat) (A B:World):Prop:=A.heap.size<=B.heap.size/\∀ b,b < n->b≠g->B.heap[b]?=A.heap[b]?
theorem KpX.refl (g n:Nat)(A:World):KpX g n A A:=⟨Nat.le_refl _,fun _ _ _=>rfl⟩
theorem KpX.trans {g n:Nat}{A B C:World}(h:KpX g n A B)(k:KpX g n B C):KpX g n A C:=⟨Nat.le_trans h.1 k.1,fun b h1 h2=>(k.2 b h1 h2).trans (h.2 b h1 h2)⟩
theorem KpX.alloc {g n:Nat}{A B:World}(h:KpX g n A B)(hn:n<=A.heap.size)(o:Obj):KpX g n A (B.alloc o):=⟨Nat.le_trans h.1 (by simp),fun b h1 h2=>(Below.heap_alloc _ _ _ (Nat.lt_of_lt_of_le h1 (Nat.le_trans hn h.1))).trans (h.2 b h1 h2)⟩
theorem KpX.cell {g n:Nat}{A B:World}(h:KpX g n A B){p:Addr}(h1:p.block < n)(h2:p.block≠g):B.cell? p=A.cell? p:=by
 unfold World.cell?;rw [h.2 _ h1 h2]
theorem DCells.kp {g n:Nat}{A B:World}(h:KpX g n A B){b o:Nat}{d:Dp}{p:Value}(hd:DCells A b o d p)(h1:b < n)(h2:b≠g):DCells B b o d p:=by
 obtain ⟨c0,c1,c2,c3,c4,c5,c6,c7,c8,c9,c10⟩:=hd;exact ⟨(h.cell h1 h2).trans c0,(h.cell h1 h2).trans c1,(h.cell h1 h2).trans c2,(h.cell h1 h2).trans c3,(h.cell h1 h2).trans c4,(h.cell h1 h2).trans c5,(h.cell h1 h2).trans c6,(h.cell h1 h2).trans c7,(h.cell h1 h2).trans c8,(h.cell h1 h2).trans c9,(h.cell h1 h2).trans c10⟩
theorem ptrs1_in (F:Fence)(n:Nat)(h31:F.fn 31)(hro:F.round=none)(hn:1<=n)(l Bd Bi g n₁:Nat)(ad:Option Addr)(cap:Nat)(ds:List Dp)(i:Int)(hl:ds.length<=1000000)(J Jx:List Int->World->Prop)(W:World)
  (hJ:AbidesFrom W.heap.size J)
  (hY:∀ pre x W1,J pre W1->pre.length < ds.length->YieldAt F (n - 1) Tryz.prog l #[.int .i64 x] W1 fun e W' =>
   (e=.returned (.bool true)/\J (pre ++ [x]) W'/\KpX g n₁ W1 W')\/(e=.returned (.bool false)/\Jx (pre ++ [x]) W'))
  (hn₁:n₁<=W.heap.size) (hbi:Bi < n₁/\Bi≠g)
  (hBd:W.cell? ⟨Bd,0,none⟩=some (.slice ad ds.length cap)) (hBi:W.cell? ⟨Bi,0,none⟩=some (.int .i64 i))
  (hD:∀ (j:Nat) (h:j < ds.length),∃ b off pa pn pc,ad=some ⟨b,off,none⟩/\b < n₁/\b≠g/\DCells W b (off+j * 11) ds[j] (.slice pa pn pc)) (h0:J [] W) :
  CallsIn F n Tryz.prog 31 #[.func (.yield l) #[] #[],.pointer (some ⟨Bd,0,none⟩),.pointer (some ⟨Bi,0,none⟩)] W fun e W'=>(∃ v,e=.returned v) /\
   ((∃ ys,ys=lo1 i ds/\J ys W')\/(∃ pre,True/\Jx pre W')):=by
 have HD:=hide hD;have HJ:=hide hJ;have HY:=hide hY;clear hD hJ hY;refine callsIn_of_wp Tryz.func31 rfl h31 ?_ hro;simp only [Tryz.ntmps31,List.size_toArray,List.length_cons,List.length_nil,Nat.reduceAdd,Nat.reduceSub,Array.replicate_succ,Array.replicate_zero,List.push_toArray,List.append_toArray,List.nil_append,List.cons_append]
 gi_wp2
 gi_loopw [8] (fun iv wr=>∃ k:Nat,k<=ds.length/\iv=.int .i64 k/\Hid (J (lo1 i (ds.take k)) wr/\KpX g n₁ W wr)) (fun iv _=>ds.length - (intOf iv).toNat)
 case atStart=>exact ⟨0,Nat.zero_le _,rfl,h0,KpX.refl _ _ _⟩
 case round =>
  obtain ⟨k,hk,rfl,HR⟩:=hrel;have k0:(0:Int)<=(k:Int):=by omega
  by_cases hlt:k < ds.length
  ·obtain ⟨b,off,pa,pn,pc,rfl,hb1,hb2,hc⟩:=HD.out k hlt;have hc':=DCells.kp HR.out.2 hc hb1 hb2;have hbi':=(HR.out.2.cell (p:=⟨Bi,0,none⟩) hbi.1 hbi.2).trans hBi;have HYk:=hide (fun (h1:ds[k].kd=1) (h2:ds[k].io=i)=>lo1_yes hlt h1 h2);have HNk:=hide (fun (h1:¬ (ds[k].kd=1/\ds[k].io=i))=>lo1_no hlt h1);have HLk:=hide (lo1_len i ds k);obtain ⟨d,hd⟩:∃ d,ds[k]=d:=⟨_,rfl⟩
   rw [hd] at hc' HYk HNk;have k1:(k:Int) < (ds.length:Int):=by omega
   obtain ⟨c0,c1,c2,c3,c4,c5,c6,c7,c8,c9,c10⟩:=hc';have hbw:¬ b=wr.heap.size:=by have:=HR.out.2.1;omega
   have hiw:¬ Bi=wr.heap.size:=by have:=HR.out.2.1;have:=hbi.1;omega
   clear hc hd;obtain ⟨d0,d1,d2,d3,d4,d5,d6,d7,d8,d9,d10⟩:=d;simp only at c0 c1 c2 c3 c4 c5 c6 c7 c8 c9 HYk HNk;have hbj:(wr.alloc (.cells #[.int .i64 d0,.int .i64 d1,.int .i64 d2,.int .i64 d3,.int .i64 d4,.int .i64 d5,.string d6,.bool d7,.bool d8,.int .i64 d9,.slice pa pn pc] 41)).cell? ⟨Bi,0,none⟩=some (.int .i64 i):=(World.cell?_alloc_lt _ _ ⟨Bi,0,none⟩ (by have:=HR.out.2.1;have:=hbi.1;show Bi < _;omega)).trans hbi';have HJA:=hide (HJ.out _ _ _ none HR.out.1 (World.grownBy_alloc wr (.cells #[.int .i64 d0,.int .i64 d1,.int .i64 d2,.int .i64 d3,.int .i64 d4,.int .i64 d5,.string d6,.bool d7,.bool d8,.int .i64 d9,.slice pa pn pc] 41) none) (fun r e=>by cases e));have HKA:=hide (HR.out.2.alloc hn₁ (.cells #[.int .i64 d0,.int .i64 d1,.int .i64 d2,.int .i64 d3,.int .i64 d4,.int .i64 d5,.string d6,.bool d7,.bool d8,.int .i64 d9,.slice pa pn pc] 41));by_cases e1:d1=1
   ·subst e1;by_cases e2:d2=i
    ·subst e2;obtain ⟨fn,tmps,assign,body,hy,hR⟩:=HY.out _ d3 _ HJA.out (Nat.lt_of_le_of_lt HLk.out hlt);have hyes:=HYk.out rfl rfl
     gi_wp2
     refine hR.mono ?_;rintro e W3 (⟨rfl,hJ3,hk3⟩ | ⟨rfl,hJx3⟩)
     ·have HE:Hid (J (lo1 d2 (ds.take (k+1))) W3/\KpX g n₁ W W3):=⟨by rw [hyes];exact hJ3,HKA.out.trans hk3⟩
      exact cQ104
     ·exact cQ90
    ·have e3:decide (d2=i)=false:=by simp [e2]
     have HE:Hid (J (lo1 i (ds.take (k+1))) (wr.alloc (.cells #[.int .i64 d0,.int .i64 1,.int .i64 d2,.int .i64 d3,.int .i64 d4,.int .i64 d5,.string d6,.bool d7,.bool d8,.int .i64 d9,.slice pa pn pc] 41))/\KpX g n₁ W (wr.alloc (.cells #[.int .i64 d0,.int .i64 1,.int .i64 d2,.int .i64 d3,.int .i64 d4,.int .i64 d5,.string d6,.bool d7,.bool d8,.int .i64 d9,.slice pa pn pc] 41))):=⟨by rw [HNk.out (fun q=>e2 q.2)];exact HJA.out,HKA.out⟩
     exact cQ40
   ·have e3:decide (d1=1)=false:=by simp [e1]
    have HE:Hid (J (lo1 i (ds.take (k+1))) (wr.alloc (.cells #[.int .i64 d0,.int .i64 d1,.int .i64 d2,.int .i64 d3,.int .i64 d4,.int .i64 d5,.string d6,.bool d7,.bool d8,.int .i64 d9,.slice pa pn pc] 41))/\KpX g n₁ W (wr.alloc (.cells #[.int .i64 d0,.int .i64 d1,.int .i64 d2,.int .i64 d3,.int .i64 d4,.int .i64 d5,.string d6,.bool d7,.bool d8,.int .i64 d9,.slice pa pn pc] 41))):=⟨by rw [HNk.out (fun q=>e1 q.1)];exact HJA.out,HKA.out⟩
    exact cQ40
  ·exact cQ77
theorem zid (F:Fence)(n:Nat)(h31:F.fn 31)(hro:F.round=none)(hn:1<=n)(Bd Bi g n₁:Nat)(ad:Option Addr)(cap:Nat)(ds:List Dp)(i:Int)(hl:ds.length<=1000000)(w:World)
  (hn₁:n₁<=w.heap.size) (hbd:Bd < n₁/\Bd≠g) (hbi:Bi < n₁/\Bi≠g) (hBd:w.cell? ⟨Bd,0,none⟩=some (.slice ad ds.length cap)) (hBi:w.cell? ⟨Bi,0,none⟩=some (.int .i64 i))
  (hD:∀ (j:Nat) (h:j < ds.length),∃ b off pa pn pc,ad=some ⟨b,off,none⟩/\b < n₁/\b≠g/\DCells w b (off+j * 11) ds[j] (.slice pa pn pc)) :
  SeqStopsK F n Tryz.prog 31 #[.pointer (some ⟨Bd,0,none⟩),.pointer (some ⟨Bi,0,none⟩)] (fun x:Int=>#[Value.int .i64 x]) (KpX g n₁) (fun ys=>ys=lo1 i ds) (fun _=>True) ds.length w:=fun l J Jx W hW hJ _ hY h0 =>
 ptrs1_in F n h31 hro hn l Bd Bi g n₁ ad cap ds i hl J Jx W hJ hY (Nat.le_trans hn₁ hW.size) hbi ((hW.cell (p:=⟨Bd,0,none⟩) (Nat.lt_of_lt_of_le hbd.1 hn₁)).trans hBd) ((hW.cell (p:=⟨Bi,0,none⟩) (Nat.lt_of_lt_of_le hbi.1 hn₁)).trans hBi)
  (fun j h=>let ⟨b,off,pa,pn,pc,e,h1,h2,h3⟩:=hD j h;⟨b,off,pa,pn,pc,e,h1,h2,h3.below hW (Nat.lt_of_lt_of_le h1 hn₁)⟩) h0
theorem Tryz.u76:Tryz.prog.underlying 76=some (.array 2 3):=by kernel_rfl
theorem arr0 (p q:Int)(w:World):(Instr.index 76 (.agg #[.int .i64 p,.int .i64 q]) (.int .i64 0)).run Tryz.prog w=.ok (.int .i64 p) w:=by
 exact cQ98
theorem arr1 (p q:Int)(w:World):(Instr.index 76 (.agg #[.int .i64 p,.int .i64 q]) (.int .i64 1)).run Tryz.prog w=.ok (.int .i64 q) w:=by
 exact cQ98
theorem zie (i:Int)(w:World) :
  Calls Tryz.prog 29 #[.int .i64 i] w fun e w'=>∃ r:Int,e=.returned (.int .i64 r)/\decide (0<=r)=inB i 1 8/\w'=w:=by
 cases hb:inB i 1 8 with
 | false =>
  rcases zfk hb with h | h
  ·have h2:decide (i < 1)=true:=by simp;omega
   go_enter Tryz.func29,Tryz.ntmps29
   go_wp2;go_ret;exact ⟨-1,rfl,by decide,rfl⟩
  ·have h1:decide (i < 1)=false:=by simp;omega
   have h2:decide (8 < i)=true:=by simp;omega
   go_enter Tryz.func29,Tryz.ntmps29
   go_wp2;go_ret;exact ⟨-1,rfl,by decide,rfl⟩
 | true =>
  obtain ⟨h0,h1⟩:=zao hb;have h2:decide (i < 1)=false:=by simp;omega
  have h3:decide (8 < i)=false:=by simp;omega
  go_enter Tryz.func29,Tryz.ntmps29
  go_wp2;go_ret;refine ⟨_,rfl,?_,rfl⟩;simp;omega
theorem zif (i:Int)(w:World) :
  Calls Tryz.prog 32 #[.int .i64 i] w fun e w'=>∃ r:Int,e=.returned (.int .i64 r)/\decide (0<=r)=inB i 1 16/\w'=w:=by
 cases hb:inB i 1 16 with
 | false =>
  rcases zfk hb with h | h
  ·have h2:decide (i < 1)=true:=by simp;omega
   go_enter Tryz.func32,Tryz.ntmps32
   go_wp2;go_ret;exact ⟨-1,rfl,by decide,rfl⟩
  ·have h1:decide (i < 1)=false:=by simp;omega
   have h2:decide (16 < i)=true:=by simp;omega
   go_enter Tryz.func32,Tryz.ntmps32
   go_wp2;go_ret;exact ⟨-1,rfl,by decide,rfl⟩
 | true =>
  obtain ⟨h0,h1⟩:=zao hb;have h2:decide (i < 1)=false:=by simp;omega
  have h3:decide (16 < i)=false:=by simp;omega
  go_enter Tryz.func32,Tryz.ntmps32
  go_wp2;go_ret;refine ⟨_,rfl,?_,rfl⟩;simp;omega
theorem zhe (i:Int)(dx dy bv:Value)(a3:Option Addr)(c3:Nat)(w:World) :
  Calls Tryz.prog 15 #[.agg #[dx,dy,.slice a3 8 c3,bv],.int .i64 i] w fun e w'=>e=.returned (.bool (inB i 1 8))/\w'=w.alloc (.cells #[dx,dy,.slice a3 8 c3,bv] 30):=by
 have CU:=hide (fun W=>zie i W)
 cases hb:inB i 1 8 with
 | false =>
  rw [hb] at CU;go_enter Tryz.func15,Tryz.ntmps15
  exact cQ115
 | true =>
  rw [hb] at CU;obtain ⟨h0,h1⟩:=zao hb;have h2:decide (i<=8)=true:=by simp;omega
  go_enter Tryz.func15,Tryz.ntmps15
  go_wp2_with fail
  refine (CU.out _).mono ?_;rintro e w1 ⟨r,rfl,hr,rfl⟩;go_wp2;go_ret;exact ⟨rfl,rfl⟩
theorem zhf (i:Int)(dx dy iv:Value)(a3:Option Addr)(c3:Nat)(w:World) :
  Calls Tryz.prog 23 #[.agg #[dx,dy,iv,.slice a3 16 c3],.int .i64 i] w fun e w'=>e=.returned (.bool (inB i 1 16))/\w'=w.alloc (.cells #[dx,dy,iv,.slice a3 16 c3] 30):=by
 have CU:=hide (fun W=>zif i W)
 cases hb:inB i 1 16 with
 | false =>
  rw [hb] at CU;go_enter Tryz.func23,Tryz.ntmps23
  exact cQ115
 | true =>
  rw [hb] at CU;obtain ⟨h0,h1⟩:=zao hb;have h2:decide (i<=16)=true:=by simp;omega
  go_enter Tryz.func23,Tryz.ntmps23
  go_wp2_with fail
  refine (CU.out _).mono ?_;rintro e w1 ⟨r,rfl,hr,rfl⟩;go_wp2;go_ret;exact ⟨rfl,rfl⟩
theorem zj0 (k l p q:Int)(w:World) :
  Calls Tryz.prog 30 #[.agg #[.int .i64 k,.int .i64 l,.int .i64 p,.int .i64 q]] w fun e w'=>∃ v,e=.returned (.agg #[.int .i64 k,.int .i64 l,v])/\ROwns w' w.heap.size 3 v (ic [p,q])/\Below w.heap.size w w':=by
 have mk:=make02;have a0:=arr0 p q;have a1:=arr1 p q;go_enter Tryz.func30,Tryz.ntmps30
 go_wp2
 go_rounds 3
 refine bodyPost_ret (v:=.agg #[.int .i64 k,.int .i64 l,.slice (some ⟨w.heap.size+1+1,0,none⟩) 2 2]) (by simp [results,go_sem]) rfl ⟨_,rfl,?_,by go_grown⟩;have:=((ROwns.lit ((w.alloc (Obj.cells #[.int .i64 k,.int .i64 l,.int .i64 p,.int .i64 q] 78)).alloc (Obj.cells #[.int .i64 k,.int .i64 l,.slice (some ⟨w.heap.size+1+1,0,none⟩) 2 2] 37)) w.heap.size 3 #[.int .i64 p,.int .i64 q] (by simp;omega) (by simp [maxLen])).alloc (Obj.cells #[.int .i64 p] 3)).alloc (Obj.cells #[.int .i64 q] 3);simpa [ic] using this
theorem zgc (k:Int)(w:World) :
  Calls Tryz.prog 16 #[.int .i64 k] w fun e w'=>∃ v,e=.returned (.agg #[.int .i64 k,.int .i64 (zak k),v])/\ROwns w' w.heap.size 3 v (ic [0,0])/\Below w.heap.size w w':=by
 obtain ⟨nl,hnl⟩:∃ l,zak k=l:=⟨_,rfl⟩
 rw [hnl];by_cases h:k=0
 ·have e1:nl=0:=by rw [← hnl];simp [zak,h]
  subst h e1;clear hnl;go_enter Tryz.func16,Tryz.ntmps16
  go_wp2_with fail
  refine (zj0 _ _ _ _ _).mono ?_;rintro e w1 ⟨v,rfl,O1,B1⟩;obtain ⟨q0,q1,q2,z0,z1,z2,hlt⟩:=zfe (w1:=w1) (b:=w.heap.size) ((B1.block _ (by simp;omega)).trans (zfd w _ _));obtain ⟨a1,c1,rfl⟩:=O1.form2;have HO:=hide O1;have HB:=hide B1;clear O1 B1;go_wp2;refine bodyPost_ret (v:=.agg #[.int .i64 0,.int .i64 0,.slice a1 2 c1]) (by simp [results,go_sem,q0,q1,q2]) rfl ⟨_,rfl,?_,?_⟩
  ·exact cQ95
  ·exact cQ83
 ·have h0:(k == 0)=false:=by simpa using h
  have h1:(k != 0)=true:=by simpa using h
  have e1:nl=1:=by rw [← hnl];simp [zak,h]
  subst e1;clear hnl;go_enter Tryz.func16,Tryz.ntmps16
  go_wp2_with fail
  refine (zj0 _ _ _ _ _).mono ?_;rintro e w1 ⟨v,rfl,O1,B1⟩;obtain ⟨q0,q1,q2,z0,z1,z2,hlt⟩:=zfe (w1:=w1) (b:=w.heap.size) ((B1.block _ (by simp;omega)).trans (zfd w _ _));obtain ⟨a1,c1,rfl⟩:=O1.form2;have HO:=hide O1;have HB:=hide B1;clear O1 B1;go_wp2;refine bodyPost_ret (v:=.agg #[.int .i64 k,.int .i64 1,.slice a1 2 c1]) (by simp [results,go_sem,q0,q1,q2]) rfl ⟨_,rfl,?_,?_⟩
  ·exact cQ95
  ·exact cQ83
attribute [local go_sem] Oper.semAt_some
variable {Z : ZT}
def zr (pre ps:List Int):List Int:=pre.foldl (fun xs k=>if 0<=k/\k < 2 then xs.set k.toNat 0 else xs) ps
theorem zj1 (pre ps:List Int):(zr pre ps).length=ps.length:=by
 induction pre generalizing ps with
 | nil=>rfl
 | cons k r ih =>
  have:zr (k :: r) ps=zr r (if 0<=k/\k < 2 then ps.set k.toNat 0 else ps):=rfl;rw [this,ih]
  split<;>simp
theorem zr_yes (pre ps:List Int){x:Int}(h0:0<=x)(h1:x < 2):zr (pre ++ [x]) ps=(zr pre ps).set x.toNat 0:=by
 unfold zr;rw [List.foldl_append,List.foldl_cons,List.foldl_nil,if_pos ⟨h0,h1⟩]
theorem zr_no (pre ps:List Int){x:Int}(h:¬ (0<=x/\x < 2)):zr (pre ++ [x]) ps=zr pre ps:=by
 unfold zr;rw [List.foldl_append,List.foldl_cons,List.foldl_nil,if_neg h]
theorem zr_img (i:Int)(ds:List Dp)(ps:List Int)(h:∀ d∈ds,d.kd=1->0<=d.pt/\d.pt < 2):zr (lo1 i ds) ps=imgP i ds ps:=by
 induction ds generalizing ps with
 | nil=>rfl
 | cons d r ih =>
  have e:imgP i (d :: r) ps=imgP i r (if d.kd=1/\d.io=i then ps.set d.pt.toNat 0 else ps):=rfl;rw [e,← ih _ (fun q hq=>h q (by simp [hq]))];by_cases c:d.kd=1/\d.io=i
  ·have l:lo1 i (d :: r)=d.pt :: lo1 i r:=by simp [lo1,c.1,c.2]
   rw [l,if_pos c];show zr (lo1 i r) (if 0<=d.pt/\d.pt < 2 then ps.set d.pt.toNat 0 else ps)=_;rw [if_pos (h d (by simp) c.1)]
  ·have l:lo1 i (d :: r)=lo1 i r:=by
    unfold lo1;rw [List.filter_cons_of_neg (by simpa using c)]
   rw [l,if_neg c]
theorem zj2 (a:Option Addr)(len cap:Nat)(i:Int)(w:World) :
  Calls Tryz.prog 18 #[.slice a len cap,.int .i64 i] w fun e w'=>e=.returned (.func (.func 31) #[] #[.pointer (some ⟨w.heap.size,0,none⟩),.pointer (some ⟨w.heap.size+1,0,none⟩)])/\w'=(w.alloc (.cells #[.slice a len cap] 31)).alloc (.cells #[.int .i64 i] 3):=by
 go_enter Tryz.func18,Tryz.ntmps18
 go_wp2;go_ret;exact ⟨rfl,rfl⟩
theorem zed (u v iv bv dv pv:Value)(m:MD)(i:Int)(w:World)(h:MR w u v iv bv dv pv m)(hm:Sh Z m) :
  Calls Tryz.prog 6 #[.agg #[u,v,iv,bv,dv,pv,.int .i64 m.nx],.int .i64 i] w fun e w'=>∃ v9,e=.returned (.agg #[.int .i64 (imgI m i).1,.int .i64 (imgI m i).2.1,v9])/\ROwns w' w.heap.size 3 v9 (ic (imgI m i).2.2)/\Below w.heap.size w w':=by
 obtain ⟨a1,c1,a2,c2,a3,c3,a4,c4,a5,c5,a6,c6,rfl,rfl,rfl,rfl,rfl,rfl⟩:=h.form;have HH:=hide h;have HM:=hide hm;have hi8:=hm.i;clear h hm;have HB3:Hid (Below w.heap.size w (((w.alloc (.cells #[.slice a1 m.xs.length c1,.slice a2 m.ys.length c2,.slice a3 8 c3,.slice a4 m.bs.length c4,.slice a5 m.fs.length c5,.slice a6 m.ds.length c6,.int .i64 m.nx] 33)).alloc (.cells #[.int .i64 0,.int .i64 0,.slice none 0 0] 37)).alloc (.cells #[.slice a1 m.xs.length c1,.slice a2 m.ys.length c2,.slice a3 8 c3,.slice a4 m.bs.length c4] 30))/\AtC (((w.alloc (.cells #[.slice a1 m.xs.length c1,.slice a2 m.ys.length c2,.slice a3 8 c3,.slice a4 m.bs.length c4,.slice a5 m.fs.length c5,.slice a6 m.ds.length c6,.int .i64 m.nx] 33)).alloc (.cells #[.int .i64 0,.int .i64 0,.slice none 0 0] 37)).alloc (.cells #[.slice a1 m.xs.length c1,.slice a2 m.ys.length c2,.slice a3 8 c3,.slice a4 m.bs.length c4] 30)) (w.heap.size+1) 37 #[.int .i64 0,.int .i64 0,.slice none 0 0]/\AtC (((w.alloc (.cells #[.slice a1 m.xs.length c1,.slice a2 m.ys.length c2,.slice a3 8 c3,.slice a4 m.bs.length c4,.slice a5 m.fs.length c5,.slice a6 m.ds.length c6,.int .i64 m.nx] 33)).alloc (.cells #[.int .i64 0,.int .i64 0,.slice none 0 0] 37)).alloc (.cells #[.slice a1 m.xs.length c1,.slice a2 m.ys.length c2,.slice a3 8 c3,.slice a4 m.bs.length c4] 30)) w.heap.size 33 #[.slice a1 m.xs.length c1,.slice a2 m.ys.length c2,.slice a3 8 c3,.slice a4 m.bs.length c4,.slice a5 m.fs.length c5,.slice a6 m.ds.length c6,.int .i64 m.nx]/\(((w.alloc (.cells #[.slice a1 m.xs.length c1,.slice a2 m.ys.length c2,.slice a3 8 c3,.slice a4 m.bs.length c4,.slice a5 m.fs.length c5,.slice a6 m.ds.length c6,.int .i64 m.nx] 33)).alloc (.cells #[.int .i64 0,.int .i64 0,.slice none 0 0] 37)).alloc (.cells #[.slice a1 m.xs.length c1,.slice a2 m.ys.length c2,.slice a3 8 c3,.slice a4 m.bs.length c4] 30)).heap.size=w.heap.size+3):=by
  refine ⟨(((Below.refl _ w).alloc nR _).alloc (by simp) _).alloc (by simp;omega) _,?_,((AtC.new w 33 _).alloc _).alloc _,by simp⟩;have:=(AtC.new (w.alloc (.cells #[.slice a1 m.xs.length c1,.slice a2 m.ys.length c2,.slice a3 8 c3,.slice a4 m.bs.length c4,.slice a5 m.fs.length c5,.slice a6 m.ds.length c6,.int .i64 m.nx] 33)) 37 #[.int .i64 0,.int .i64 0,.slice none 0 0]).alloc (.cells #[.slice a1 m.xs.length c1,.slice a2 m.ys.length c2,.slice a3 8 c3,.slice a4 m.bs.length c4] 30);simpa using this
 refine (callsIn_wide (n:=3)).1 ?_;refine callsIn_of_wp_marks Tryz.func6 rfl trivial ?_ rfl;simp only [Tryz.ntmps6,List.size_toArray,List.length_cons,List.length_nil,Nat.reduceAdd,Nat.reduceSub,Array.replicate_succ,Array.replicate_zero,List.push_toArray,List.append_toArray,List.nil_append,List.cons_append];rw [hi8]
 cases hib:inB i 1 8 with
 | false =>
  have hI:imgI m i=(0,zak 0,[0,0]):=by unfold imgI;rw [hib];rfl
  rw [hI];have CH:=hide (fun W=>zhe i (.slice a1 m.xs.length c1) (.slice a2 m.ys.length c2) (.slice a4 m.bs.length c4) a3 c3 W);rw [hib] at CH;clear hib hI
  gi_wp2_with (refine ⟨trivial,?_⟩;gi_at_call 15;refine (callsIn_wide.2 (CH.out _)).mono ?_;rintro e w1 ⟨rfl,rfl⟩)
  refine ⟨trivial,(callsIn_wide.2 (zgc 0 _)).mono ?_⟩;rintro e w4 ⟨v9,rfl,O4,B4⟩;obtain ⟨n1,n2,rfl,-⟩:=O4.form;have K4:=HB3.out.2.1.over B4;have s0:=K4.c0;have s1:=K4.c1;have s2:=K4.c2;have z0:=K4.frozen 0;have z1:=K4.frozen 1;have z2:=K4.frozen 2;have hl:=K4.lt;have HF:Hid (ROwns (((w4.setCell ⟨w.heap.size+1,0,none⟩ (.int .i64 0)).setCell ⟨w.heap.size+1,1,none⟩ (.int .i64 (zak 0))).setCell ⟨w.heap.size+1,2,none⟩ (.slice n1 (ic [0,0]).length n2)) w.heap.size 3 (.slice n1 (ic [0,0]).length n2) (ic [0,0])/\Below w.heap.size w (((w4.setCell ⟨w.heap.size+1,0,none⟩ (.int .i64 0)).setCell ⟨w.heap.size+1,1,none⟩ (.int .i64 (zak 0))).setCell ⟨w.heap.size+1,2,none⟩ (.slice n1 (ic [0,0]).length n2))):=by
   have hz:=HB3.out.2.2.2;have O5:ROwns w4 (w.heap.size+3) 3 (.slice n1 (ic [0,0]).length n2) (ic [0,0]):=by rw [← hz];exact O4
   have b4:=HB3.out.1.trans (B4.mono HB3.out.1.size);exact ⟨(((O5.setCell_other (by omega) _).setCell_other (by omega) _).setCell_other (by omega) _).base_le (by omega),((b4.setCell (by simp) _).setCell (by simp) _).setCell (by simp) _⟩
  clear K4 O4 B4 HB3
  gi_wp2
  exact ⟨.agg #[.int .i64 0,.int .i64 (zak 0),.slice n1 (ic [0,0]).length n2],by simp [results,go_sem,s0,s1,s2],_,rfl,HF.out.1,HF.out.2⟩
 | true =>
  obtain ⟨h1,h2⟩:=zao hib;obtain ⟨j,rfl⟩:∃ j:Nat,i=(j:Int)+1:=⟨(i - 1).toNat,by omega⟩
  have hj:j < m.is.length:=by rw [hi8];omega
  have hI:imgI m ((j:Int)+1)=(m.is[j].1,m.is[j].2.1,imgP ((j:Int)+1) m.ds m.is[j].2.2):=by
   exact cQ138
  rw [hI];have CH:=hide (fun W=>zhe ((j:Int)+1) (.slice a1 m.xs.length c1) (.slice a2 m.ys.length c2) (.slice a4 m.bs.length c4) a3 c3 W);rw [hib] at CH;clear hib hI;obtain ⟨qa,qc,qe,-,qh⟩:=HH.out.d.i;simp only [Value.slice.injEq,true_and] at qe;obtain ⟨rfl,rfl⟩:=qe;obtain ⟨g2,o2,⟨t0,t1,t2⟩,rfl,hg2,r0,r1,r2,e0,e1,rr⟩:=qh j hj;have hio:=HM.out.ii _ (List.getElem_mem hj);obtain ⟨⟨kd,ln,ps⟩,hX⟩:∃ X,m.is[j]=X:=⟨_,rfl⟩
  rw [hX] at e0 e1 rr hio;rw [hX];simp only at e0 e1 rr r0 r1 r2;subst e0 e1;have HPN:Hid (ps.length=2):=hio.n;obtain ⟨sa,sc,rfl⟩:=rr.form;have HRR:=hide rr;have y0:=(HB3.out.1.cell (p:=⟨g2,o2+j * 3,none⟩) hg2).trans r0;have y1:=(HB3.out.1.cell (p:=⟨g2,o2+j * 3+1,none⟩) hg2).trans r1;have y2:=(HB3.out.1.cell (p:=⟨g2,o2+j * 3+2,none⟩) hg2).trans r2;have j0:(0:Int)<=(j:Int):=by omega
  have j1:(j:Int) < 8:=by omega
  have hpl:ps.length<=2:=Nat.le_of_eq hio.n;have j9:(j:Int)+1 - 1=(j:Int):=by omega
  clear qh hX hio rr r0 r1 r2 h1 h2;have HB4:Hid (Below w.heap.size w ((((w.alloc (.cells #[.slice a1 m.xs.length c1,.slice a2 m.ys.length c2,.slice (some ⟨g2,o2,none⟩) 8 c3,.slice a4 m.bs.length c4,.slice a5 m.fs.length c5,.slice a6 m.ds.length c6,.int .i64 m.nx] 33)).alloc (.cells #[.int .i64 0,.int .i64 0,.slice none 0 0] 37)).alloc (.cells #[.slice a1 m.xs.length c1,.slice a2 m.ys.length c2,.slice (some ⟨g2,o2,none⟩) 8 c3,.slice a4 m.bs.length c4] 30)).alloc (.cells #[.int .i64 kd,.int .i64 ln,.slice sa ps.length sc] 37))/\AtC ((((w.alloc (.cells #[.slice a1 m.xs.length c1,.slice a2 m.ys.length c2,.slice (some ⟨g2,o2,none⟩) 8 c3,.slice a4 m.bs.length c4,.slice a5 m.fs.length c5,.slice a6 m.ds.length c6,.int .i64 m.nx] 33)).alloc (.cells #[.int .i64 0,.int .i64 0,.slice none 0 0] 37)).alloc (.cells #[.slice a1 m.xs.length c1,.slice a2 m.ys.length c2,.slice (some ⟨g2,o2,none⟩) 8 c3,.slice a4 m.bs.length c4] 30)).alloc (.cells #[.int .i64 kd,.int .i64 ln,.slice sa ps.length sc] 37)) (w.heap.size+1+1+1) 37 #[.int .i64 kd,.int .i64 ln,.slice sa ps.length sc]/\AtC ((((w.alloc (.cells #[.slice a1 m.xs.length c1,.slice a2 m.ys.length c2,.slice (some ⟨g2,o2,none⟩) 8 c3,.slice a4 m.bs.length c4,.slice a5 m.fs.length c5,.slice a6 m.ds.length c6,.int .i64 m.nx] 33)).alloc (.cells #[.int .i64 0,.int .i64 0,.slice none 0 0] 37)).alloc (.cells #[.slice a1 m.xs.length c1,.slice a2 m.ys.length c2,.slice (some ⟨g2,o2,none⟩) 8 c3,.slice a4 m.bs.length c4] 30)).alloc (.cells #[.int .i64 kd,.int .i64 ln,.slice sa ps.length sc] 37)) (w.heap.size+1) 37 #[.int .i64 0,.int .i64 0,.slice none 0 0]/\AtC ((((w.alloc (.cells #[.slice a1 m.xs.length c1,.slice a2 m.ys.length c2,.slice (some ⟨g2,o2,none⟩) 8 c3,.slice a4 m.bs.length c4,.slice a5 m.fs.length c5,.slice a6 m.ds.length c6,.int .i64 m.nx] 33)).alloc (.cells #[.int .i64 0,.int .i64 0,.slice none 0 0] 37)).alloc (.cells #[.slice a1 m.xs.length c1,.slice a2 m.ys.length c2,.slice (some ⟨g2,o2,none⟩) 8 c3,.slice a4 m.bs.length c4] 30)).alloc (.cells #[.int .i64 kd,.int .i64 ln,.slice sa ps.length sc] 37)) w.heap.size 33 #[.slice a1 m.xs.length c1,.slice a2 m.ys.length c2,.slice (some ⟨g2,o2,none⟩) 8 c3,.slice a4 m.bs.length c4,.slice a5 m.fs.length c5,.slice a6 m.ds.length c6,.int .i64 m.nx]/\((((w.alloc (.cells #[.slice a1 m.xs.length c1,.slice a2 m.ys.length c2,.slice (some ⟨g2,o2,none⟩) 8 c3,.slice a4 m.bs.length c4,.slice a5 m.fs.length c5,.slice a6 m.ds.length c6,.int .i64 m.nx] 33)).alloc (.cells #[.int .i64 0,.int .i64 0,.slice none 0 0] 37)).alloc (.cells #[.slice a1 m.xs.length c1,.slice a2 m.ys.length c2,.slice (some ⟨g2,o2,none⟩) 8 c3,.slice a4 m.bs.length c4] 30)).alloc (.cells #[.int .i64 kd,.int .i64 ln,.slice sa ps.length sc] 37)).heap.size=w.heap.size+4):=by
   refine ⟨HB3.out.1.alloc HB3.out.1.size _,?_,HB3.out.2.1.alloc _,HB3.out.2.2.1.alloc _,by rw [World.size_alloc,HB3.out.2.2.2]⟩;have:=AtC.new (((w.alloc (.cells #[.slice a1 m.xs.length c1,.slice a2 m.ys.length c2,.slice (some ⟨g2,o2,none⟩) 8 c3,.slice a4 m.bs.length c4,.slice a5 m.fs.length c5,.slice a6 m.ds.length c6,.int .i64 m.nx] 33)).alloc (.cells #[.int .i64 0,.int .i64 0,.slice none 0 0] 37)).alloc (.cells #[.slice a1 m.xs.length c1,.slice a2 m.ys.length c2,.slice (some ⟨g2,o2,none⟩) 8 c3,.slice a4 m.bs.length c4] 30)) 37 #[.int .i64 kd,.int .i64 ln,.slice sa ps.length sc];rw [HB3.out.2.2.2] at this;exact this
  clear HB3
  gi_wp2_with (refine ⟨trivial,?_⟩;gi_at_call 15;refine (callsIn_wide.2 (CH.out _)).mono ?_;rintro e w1 ⟨rfl,rfl⟩)
  refine ⟨trivial,(callsIn_wide.2 (newI_any _ ps _ (HRR.out.below HB4.out.1 nR) (by omega))).mono ?_⟩;rintro e w5 ⟨uu,rfl,O5,B5⟩;obtain ⟨s5,t5,rfl⟩:=O5.rints.form;have X5:=HB4.out.2.1.over B5;have A5:=HB4.out.2.2.2.1.over B5;have R5:=HB4.out.2.2.1.over B5;have b5:=HB4.out.1.trans (B5.mono HB4.out.1.size);have l5:w.heap.size+4<=w5.heap.size:=by have:=B5.size;rw [HB4.out.2.2.2.2] at this;exact this
  have O6:ROwns w5 (w.heap.size+4) 3 (.slice s5 ps.length t5) (ic ps):=by rw [← HB4.out.2.2.2.2];exact O5
  have p2:=X5.c2;have q2:=X5.frozen 2;have d5:=A5.c5;have HX:Hid (AtC (w5.setCell ⟨w.heap.size+1+1+1,2,none⟩ (.slice s5 ps.length t5)) (w.heap.size+1+1+1) 37 #[.int .i64 kd,.int .i64 ln,.slice s5 ps.length t5]/\AtC (w5.setCell ⟨w.heap.size+1+1+1,2,none⟩ (.slice s5 ps.length t5)) (w.heap.size+1) 37 #[.int .i64 0,.int .i64 0,.slice none 0 0]/\AtC (w5.setCell ⟨w.heap.size+1+1+1,2,none⟩ (.slice s5 ps.length t5)) w.heap.size 33 #[.slice a1 m.xs.length c1,.slice a2 m.ys.length c2,.slice (some ⟨g2,o2,none⟩) 8 c3,.slice a4 m.bs.length c4,.slice a5 m.fs.length c5,.slice a6 m.ds.length c6,.int .i64 m.nx]/\Below w.heap.size w (w5.setCell ⟨w.heap.size+1+1+1,2,none⟩ (.slice s5 ps.length t5))/\ROwns (w5.setCell ⟨w.heap.size+1+1+1,2,none⟩ (.slice s5 ps.length t5)) (w.heap.size+4) 3 (.slice s5 ps.length t5) (ic ps)/\w.heap.size+4<=(w5.setCell ⟨w.heap.size+1+1+1,2,none⟩ (.slice s5 ps.length t5)).heap.size) :=
   ⟨X5.set 2 _,R5.other (by omega) _,A5.other (by omega) _,b5.setCell (by simp;omega) _,O6.setCell_other (by omega) _,by simpa using l5⟩
  obtain ⟨W5,hW5⟩:∃ W,w5.setCell ⟨w.heap.size+1+1+1,2,none⟩ (.slice s5 ps.length t5)=W:=⟨_,rfl⟩
  rw [hW5] at HX;have d6:=HX.out.2.2.1.c5;clear X5 A5 R5 b5 l5 O5 O6 B5 HB4;obtain ⟨gp,tp,e5,-,-,hg4,hgw,-⟩:=HX.out.2.2.2.2.1.at 0 (by rw [zaf,HPN.out];decide);rw [zaf] at e5;simp only [Value.slice.injEq,true_and] at e5;obtain ⟨rfl,rfl⟩:=e5
  gi_wp2_with fail
  refine ⟨trivial,(callsIn_wide.2 (zj2 _ _ _ _ _)).mono ?_⟩;rintro e w6 ⟨rfl,rfl⟩;have HW7:Hid (((W5.alloc (.cells #[.slice a6 m.ds.length c6] 31)).alloc (.cells #[.int .i64 ((j:Int)+1)] 3)).heap.size=W5.heap.size+2/\((W5.alloc (.cells #[.slice a6 m.ds.length c6] 31)).alloc (.cells #[.int .i64 ((j:Int)+1)] 3)).cell? ⟨W5.heap.size,0,none⟩=some (.slice a6 m.ds.length c6)/\((W5.alloc (.cells #[.slice a6 m.ds.length c6] 31)).alloc (.cells #[.int .i64 ((j:Int)+1)] 3)).cell? ⟨W5.heap.size+1,0,none⟩=some (.int .i64 ((j:Int)+1))/\Below W5.heap.size W5 ((W5.alloc (.cells #[.slice a6 m.ds.length c6] 31)).alloc (.cells #[.int .i64 ((j:Int)+1)] 3))):=by
   exact cQ55
  have HP:=hide (HH.out.p.dep)
  gi_wp2
  obtain ⟨W7,hW7⟩:∃ W,((W5.alloc (.cells #[.slice a6 m.ds.length c6] 31)).alloc (.cells #[.int .i64 ((j:Int)+1)] 3))=W:=⟨_,rfl⟩
  rw [hW7] at HW7 ⊢;have HX7:Hid (ROwns W7 (w.heap.size+4) 3 (.slice (some ⟨gp,0,none⟩) ps.length t5) (ic ps)/\AtC W7 (w.heap.size+1+1+1) 37 #[.int .i64 kd,.int .i64 ln,.slice (some ⟨gp,0,none⟩) ps.length t5]/\AtC W7 (w.heap.size+1) 37 #[.int .i64 0,.int .i64 0,.slice none 0 0]/\Below w.heap.size w W7) :=
   ⟨HX.out.2.2.2.2.1.below HW7.out.2.2.2 nR,HX.out.1.over HW7.out.2.2.2,HX.out.2.1.over HW7.out.2.2.2,HX.out.2.2.2.1.trans (HW7.out.2.2.2.mono HX.out.2.2.2.1.size)⟩
  have hw5:w.heap.size+4<=W5.heap.size:=HX.out.2.2.2.2.2;have h7:=HW7.out.1;clear hW5 hW7;refine wpIn_rangeFunc_ownF (F:=Fence.wide) (n:=3) rfl (by decide) (gf:=31) (lb:=#[.pointer (some ⟨W5.heap.size,0,none⟩),.pointer (some ⟨W5.heap.size+1,0,none⟩)]) rfl trivial (enters_of Tryz.func31 (by kernel_rfl) rfl)
   (zid Fence.wide 2 trivial rfl (by decide) W5.heap.size (W5.heap.size+1) gp (W5.heap.size+2) a6 c6 m.ds ((j:Int)+1) (Nat.le_trans HM.out.l (by decide)) W7 (by omega) ⟨by omega,by omega⟩ ⟨by omega,by omega⟩ HW7.out.2.1 HW7.out.2.2.1 ?deps)
   (fun h k=>h.trans k) (fun W l o o' hl ho _ _=>⟨by simp [World.putObj],fun b hb _=>World.putObj_heap_other (by omega)⟩) bR (fun _=>rfl)
   (fun pre W=>ROwns W (w.heap.size+4) 3 (.slice (some ⟨gp,0,none⟩) ps.length t5) (ic (zr pre ps))/\AtC W (w.heap.size+1+1+1) 37 #[.int .i64 kd,.int .i64 ln,.slice (some ⟨gp,0,none⟩) ps.length t5]/\AtC W (w.heap.size+1) 37 #[.int .i64 0,.int .i64 0,.slice none 0 0]/\Below w.heap.size w W)
   (fun _ _ _=>False)
   (fun s W W' row hi hg hr=>⟨hi.1.of_heap (fun k hk=>hg.block k (hi.1.lt k hk).2 (fun e=>by cases hk;have:=(hr gp e.symm).1;omega)),hi.2.1.grown hg (fun e=>by have:=(hr _ e).1;omega),hi.2.2.1.grown hg (fun e=>by have:=(hr _ e).1;omega),hi.2.2.2.grown hg hi.2.2.2.size (fun k e=>by have:=(hr k e).1;omega)⟩)
   (fun _ _ _ _ _ h _ _=>h) HX7.out
   (fun x=>{ tmps:=#[.agg #[.slice a1 m.xs.length c1,.slice a2 m.ys.length c2,.slice (some ⟨g2,o2,none⟩) 8 c3,.slice a4 m.bs.length c4,.slice a5 m.fs.length c5,.slice a6 m.ds.length c6,.int .i64 m.nx],.int .i64 ((j:Int)+1),.pointer (some ⟨w.heap.size,0,none⟩),undef,.pointer (some ⟨w.heap.size+1,0,none⟩),.pointer (some ⟨w.heap.size+1+1+1,0,none⟩),.int .i64 x,.pointer (some ⟨w.heap.size,0,none⟩),.agg #[.slice a1 m.xs.length c1,.slice a2 m.ys.length c2,.slice (some ⟨g2,o2,none⟩) 8 c3,.slice a4 m.bs.length c4],.int .i64 ((j:Int)+1),.bool true,.bool false,undef,.pointer (some ⟨w.heap.size,0,none⟩),.pointer (some ⟨w.heap.size,2,none⟩),.slice (some ⟨g2,o2,none⟩) 8 c3,.int .i64 ((j:Int)+1),.int .i64 (j:Int),.pointer (some ⟨g2,o2+j * 3,none⟩),.agg #[.int .i64 kd,.int .i64 ln,.slice sa ps.length sc],.pointer (some ⟨w.heap.size+1+1+1,2,none⟩),.slice sa ps.length sc,.slice (some ⟨gp,0,none⟩) ps.length t5,.pointer (some ⟨w.heap.size+1+1+1,2,none⟩),.pointer (some ⟨w.heap.size,5,none⟩),.slice a6 m.ds.length c6,.int .i64 ((j:Int)+1),.func (.func 31) #[] #[.pointer (some ⟨W5.heap.size,0,none⟩),.pointer (some ⟨W5.heap.size+1,0,none⟩)],.int .i64 x,undef,undef,undef,undef,undef,undef,undef,undef,undef,undef,undef,undef,undef,undef],defers:=[] }) ?assign ?body ?done ?stop
  case deps =>
   obtain ⟨pa,pcap,pe,-,ph⟩:=HP.out;simp only [Value.slice.injEq,true_and] at pe;obtain ⟨rfl,rfl⟩:=pe;intro q hq;obtain ⟨b,off,p,e1,hb,hc,hr⟩:=ph q hq;obtain ⟨pa',pc',rfl⟩:=hr.form;exact ⟨b,off,pa',_,pc',e1,by omega,by omega,hc.below HX7.out.2.2.2 hb⟩
  case assign =>
   intro l x W K hK
   gi_wp2
   exact hK
  case body =>
   rintro l pre x W ⟨i1,i2,i3,i4⟩ -;have HI:=hide (And.intro i1 (And.intro i2 (And.intro i3 i4)));have x2:=i2.c2;have hzl:(ic (zr pre ps)).length=2:=by rw [zaf,zj1,HPN.out]
   clear i2 i3 i4;by_cases hx0:0<=x
   ·obtain ⟨k,rfl⟩:∃ k:Nat,x=(k:Int):=⟨x.toNat,by omega⟩
    have d1:decide (0<=(k:Int))=true:=by simp
    by_cases hx1:k < 2
    ·obtain ⟨gq,tq,eq,cq,fq,-⟩:=i1.at k (by omega);rw [zaf,zj1] at eq;simp only [Value.slice.injEq,Option.some.injEq,Addr.mk.injEq,true_and,and_true] at eq;obtain ⟨rfl,rfl⟩:=eq;obtain ⟨cv,hcv⟩:∃ v,W.cell? ⟨gp,k,none⟩=some v:=⟨_,cq.trans (List.getElem?_eq_getElem (by omega))⟩
     have d2:decide ((k:Int) < (ps.length:Int))=true:=by have:=HPN.out;simp;omega
     have k0:(0:Int)<=(k:Int):=by omega
     have k1:(k:Int) < (ps.length:Int):=by have:=HPN.out;omega
     have HS:Hid (ROwns (W.setCell ⟨gp,k,none⟩ (.int .i64 0)) (w.heap.size+4) 3 (.slice (some ⟨gp,0,none⟩) ps.length t5) (ic (zr (pre ++ [(k:Int)]) ps))):=by
      have e0:=zr_yes pre ps (x:=(k:Int)) (by omega) (by omega);show ROwns _ _ _ _ _;rw [e0,Int.toNat_natCast,ic_set];have l0:ps.length=(ic (zr pre ps)).length:=by rw [zaf,zj1]
      have:=(ROwns.stored (w:=W) (base:=w.heap.size+4) (g:=gp) (cap:=t5) (e:=3) (l:=ic (zr pre ps)) (by rw [← l0];exact i1) k (.int .i64 0)).1;rw [← l0] at this;exact this
     clear i1 cq
     gi_wp2
     exact ⟨KeepsOthers.setCell _ _ _,⟨by simp,fun b hb hg=>heap_setCell_other _ ⟨gp,k,none⟩ b _ hg⟩,HS.out,HI.out.2.1.other (by omega) _,HI.out.2.2.1.other (by omega) _,HI.out.2.2.2.setCell (by show _<=gp;omega) _⟩
    ·have d2:decide ((k:Int) < (ps.length:Int))=false:=by have:=HPN.out;simp;omega
     have e0:=zr_no pre ps (x:=(k:Int)) (by omega);clear i1
     gi_wp2
     exact ⟨KeepsOthers.refl _,KpX.refl _ _ _,by rw [e0];exact HI.out.1,HI.out.2.1,HI.out.2.2.1,HI.out.2.2.2⟩
   ·have d1:decide (0<=x)=false:=by simp;omega
    have e0:=zr_no pre ps (x:=x) (by omega);clear i1
    gi_wp2
    exact ⟨KeepsOthers.refl _,KpX.refl _ _ _,by rw [e0];exact HI.out.1,HI.out.2.1,HI.out.2.2.1,HI.out.2.2.2⟩
  case done =>
   rintro D ys W hD rfl ⟨i1,i2,i3,i4⟩ hK;have x0:=i2.c0;have x1:=i2.c1;have x2:=i2.c2;have s0:=i3.c0;have s1:=i3.c1;have s2:=i3.c2;have z0:=i3.frozen 0;have z1:=i3.frozen 1;have z2:=i3.frozen 2;have HI:=hide (And.intro i1 (And.intro i2 (And.intro i3 (And.intro i4 hK))));clear i1 i2 i3 i4 hK;have HF:Hid ((((W.setCell ⟨w.heap.size+1,0,none⟩ (.int .i64 kd)).setCell ⟨w.heap.size+1,1,none⟩ (.int .i64 ln)).setCell ⟨w.heap.size+1,2,none⟩ (.slice (some ⟨gp,0,none⟩) ps.length t5)).heap[D]?=some (.deferred (some []))/\∀ o,AtC ((((W.setCell ⟨w.heap.size+1,0,none⟩ (.int .i64 kd)).setCell ⟨w.heap.size+1,1,none⟩ (.int .i64 ln)).setCell ⟨w.heap.size+1,2,none⟩ (.slice (some ⟨gp,0,none⟩) ps.length t5)).putObj D o) (w.heap.size+1) 37 #[.int .i64 kd,.int .i64 ln,.slice (some ⟨gp,0,none⟩) ps.length t5]/\ROwns ((((W.setCell ⟨w.heap.size+1,0,none⟩ (.int .i64 kd)).setCell ⟨w.heap.size+1,1,none⟩ (.int .i64 ln)).setCell ⟨w.heap.size+1,2,none⟩ (.slice (some ⟨gp,0,none⟩) ps.length t5)).putObj D o) w.heap.size 3 (.slice (some ⟨gp,0,none⟩) ps.length t5) (ic (imgP ((j:Int)+1) m.ds ps))/\Below w.heap.size w ((((W.setCell ⟨w.heap.size+1,0,none⟩ (.int .i64 kd)).setCell ⟨w.heap.size+1,1,none⟩ (.int .i64 ln)).setCell ⟨w.heap.size+1,2,none⟩ (.slice (some ⟨gp,0,none⟩) ps.length t5)).putObj D o)):=by
    obtain ⟨i1,i2,i3,i4,hK⟩:=HI.out;have ez:=zr_img ((j:Int)+1) m.ds ps (fun d hd _=>by have:=(HM.out.dd d hd).pt;omega);rw [ez] at i1;have a1:AtC (((W.setCell ⟨w.heap.size+1,0,none⟩ (.int .i64 kd)).setCell ⟨w.heap.size+1,1,none⟩ (.int .i64 ln)).setCell ⟨w.heap.size+1,2,none⟩ (.slice (some ⟨gp,0,none⟩) ps.length t5)) (w.heap.size+1) 37 #[.int .i64 kd,.int .i64 ln,.slice (some ⟨gp,0,none⟩) ps.length t5]:=((i3.set 0 _).set 1 _).set 2 _;have o1:ROwns (((W.setCell ⟨w.heap.size+1,0,none⟩ (.int .i64 kd)).setCell ⟨w.heap.size+1,1,none⟩ (.int .i64 ln)).setCell ⟨w.heap.size+1,2,none⟩ (.slice (some ⟨gp,0,none⟩) ps.length t5)) (w.heap.size+4) 3 (.slice (some ⟨gp,0,none⟩) ps.length t5) (ic (imgP ((j:Int)+1) m.ds ps)):=((i1.setCell_other (by omega) _).setCell_other (by omega) _).setCell_other (by omega) _;have b1:Below w.heap.size w (((W.setCell ⟨w.heap.size+1,0,none⟩ (.int .i64 kd)).setCell ⟨w.heap.size+1,1,none⟩ (.int .i64 ln)).setCell ⟨w.heap.size+1,2,none⟩ (.slice (some ⟨gp,0,none⟩) ps.length t5)):=((i4.setCell (by simp) _).setCell (by simp) _).setCell (by simp) _;have k1:(((W.setCell ⟨w.heap.size+1,0,none⟩ (.int .i64 kd)).setCell ⟨w.heap.size+1,1,none⟩ (.int .i64 ln)).setCell ⟨w.heap.size+1,2,none⟩ (.slice (some ⟨gp,0,none⟩) ps.length t5)).heap[D]?=some (.deferred (some [])):=((heap_setCell_other _ ⟨w.heap.size+1,2,none⟩ D _ (by show D≠w.heap.size+1;omega)).trans ((heap_setCell_other _ ⟨w.heap.size+1,1,none⟩ D _ (by show D≠w.heap.size+1;omega)).trans (heap_setCell_other _ ⟨w.heap.size+1,0,none⟩ D _ (by show D≠w.heap.size+1;omega)))).trans hK;have n0:W5.heap.size+2<=D:=by rw [← h7];exact hD
    have n1:D≠w.heap.size+1:=by omega
    have n2:D≠gp:=by omega
    refine ⟨k1,fun o=>⟨a1.grown (grownBy_putObj' _ D o) (fun e=>n1 (Option.some.inj e)),(o1.of_heap fun k hk=>(grownBy_putObj' _ D o).block k (o1.lt k hk).2 (fun e=>by cases hk;exact n2 (Option.some.inj e).symm)).base_le (by omega),b1.grown (grownBy_putObj' _ D o) b1.size (fun k e=>by have:=Option.some.inj e;omega)⟩⟩
   gi_wp2
   refine ⟨by simp,.inl ⟨_,_,rfl,run_takeDeferred HF.out.1,?_⟩⟩;have f:=HF.out.2 (.deferred none);have f0:=f.1.c0;have f1:=f.1.c1;have f2:=f.1.c2;exact ⟨.agg #[.int .i64 kd,.int .i64 ln,.slice (some ⟨gp,0,none⟩) ps.length t5],by simp [results,go_sem,f0,f1,f2],_,rfl,f.2.1,f.2.2⟩
  case stop =>
   rintro D c pre W _ _ h _;exact h.elim
theorem zj3 (a:Option Addr)(len cap:Nat)(i:Int)(w:World) :
  Calls Tryz.prog 25 #[.slice a len cap,.int .i64 i] w fun e w'=>e=.returned (.func (.func 35) #[] #[.pointer (some ⟨w.heap.size,0,none⟩),.pointer (some ⟨w.heap.size+1,0,none⟩)])/\w'=(w.alloc (.cells #[.slice a len cap] 31)).alloc (.cells #[.int .i64 i] 3):=by
 go_enter Tryz.func25,Tryz.ntmps25
 go_wp2;go_ret;exact ⟨rfl,rfl⟩
theorem zig (va vb:Value)(l:List Int)(w:World)(ha:RInts w va l)(hb:RInts w vb l)(hl:l.length<=1000000000) :
  Calls Tryz.prog 19 #[va,vb] w fun e w'=>e=.returned (.bool true)/\Below w.heap.size w w':=by
 obtain ⟨a1,c1,rfl,ha⟩:=ha;obtain ⟨a2,c2,rfl,hb⟩:=hb;have HA:=hide ha;have HB:=hide hb;clear ha hb;go_enter Tryz.func19,Tryz.ntmps19
 go_wp2;go_loopw [5] (fun i wr=>∃ j:Nat,j<=l.length/\i=.int .i64 j/\∃ q,wr=w.drewN q) (fun i _=>l.length - (intOf i).toNat)
 case atStart=>exact ⟨0,Nat.zero_le _,rfl,0,rfl⟩
 case round =>
  obtain ⟨j,hj,rfl,q,rfl⟩:=hrel;by_cases hlt:j < l.length
  ·obtain ⟨g1,o1,rfl,_,k1⟩:=HA.out j hlt;obtain ⟨g2,o2,rfl,_,k2⟩:=HB.out j hlt;obtain ⟨t,ht⟩:∃ t,l[j]=t:=⟨_,rfl⟩
   rw [ht] at k1 k2;clear ht;have j0:(0:Int)<=(j:Int):=by omega
   exact cQ82
  ·go_wp2;go_ret;exact ⟨rfl,below_drewN bR _⟩
theorem zih (k l:Int)(va vb:Value)(xs:List Int)(w:World)(ha:RInts w va xs)(hb:RInts w vb xs)(hl:xs.length<=1000000000) :
  Calls Tryz.prog 7 #[.agg #[.int .i64 k,.int .i64 l,va],.agg #[.int .i64 k,.int .i64 l,vb]] w fun e w'=>e=.returned (.bool true)/\Below w.heap.size w w':=by
 obtain ⟨a1,c1,rfl⟩:=ha.form;obtain ⟨a2,c2,rfl⟩:=hb.form;have HA:=hide ha;have HB:=hide hb;clear ha hb;go_enter Tryz.func7,Tryz.ntmps7
 go_wp2_with fail
 refine (zig _ _ xs _ ((HA.out.alloc _).alloc _) ((HB.out.alloc _).alloc _) hl).mono ?_;rintro e w1 ⟨rfl,B1⟩;have HB1:=hide B1;clear B1;go_wp2;go_ret;exact ⟨rfl,((((Below.refl _ w).alloc nR _).alloc (by simp) _).trans (HB1.out.mono (by simp;omega)))⟩
theorem zii (d:Bool)(va vb:Value)(t:ByteArray)(l:List Sl)(w:World)(ha:RSl w va l)(hb:RSl w vb l)(hl:l.length<=1048576) :
  Calls Tryz.prog 10 #[.agg #[.bool d,va,.string t],.agg #[.bool d,vb,.string t]] w fun e w'=>e=.returned (.bool true)/\Below w.heap.size w w':=by
 obtain ⟨a1,c1,rfl,-,ha⟩:=ha;obtain ⟨a2,c2,rfl,-,hb⟩:=hb;have HA:=hide ha;have HB:=hide hb;clear ha hb;go_enter Tryz.func10,Tryz.ntmps10
 go_wp2;go_loopw [5] (fun i wr=>∃ j:Nat,j<=l.length/\i=.int .i64 j/\∃ q,wr=((w.alloc (.cells #[.bool d,.slice a1 l.length c1,.string t] 44)).alloc (.cells #[.bool d,.slice a2 l.length c2,.string t] 44)).drewN q) (fun i _=>l.length - (intOf i).toNat)
 case atStart=>exact ⟨0,Nat.zero_le _,rfl,0,rfl⟩
 case round =>
  obtain ⟨j,hj,rfl,q,rfl⟩:=hrel;by_cases hlt:j < l.length
  ·obtain ⟨g1,o1,rfl,hg1,m1,m2⟩:=HA.out j hlt;obtain ⟨g2,o2,rfl,hg2,m3,m4⟩:=HB.out j hlt;obtain ⟨n,hn⟩:∃ n,l[j].1=n:=⟨_,rfl⟩
   obtain ⟨z,hz⟩:∃ z,l[j].2=z:=⟨_,rfl⟩
   rw [hn] at m1 m3;rw [hz] at m2 m4;clear hn hz;have hg3:g1 < w.heap.size+1:=by omega
   have hg4:g2 < w.heap.size+1:=by omega
   have j0:(0:Int)<=(j:Int):=by omega
   exact cQ82
  ·go_wp2;go_ret;exact ⟨rfl,below_drewN (((Below.refl _ w).alloc nR _).alloc (by simp) _) _⟩
def insB (d1 d9:Int):Bool:=decide (d1=2) || (decide (d1=4) && decide (0 < d9))
def insS (d1 d2 d9:Int) (d6:ByteArray):Sl:=if d1=4/\0 < d9 then (d6,d2) else (⟨#[]⟩,0)
theorem inst_any (d0 d1 d2 d3 d4 d5 d9:Int)(d6:ByteArray)(d7 d8:Bool)(pa:Option Addr)(pn pc:Nat)(w:World)(h6:d6.size<=1000) :
  Calls Tryz.prog 36 #[.agg #[.int .i64 d0,.int .i64 d1,.int .i64 d2,.int .i64 d3,.int .i64 d4,.int .i64 d5,.string d6,.bool d7,.bool d8,.int .i64 d9,.slice pa pn pc]] w fun e w'=>e=.returned (.tuple #[.agg #[.string (insS d1 d2 d9 d6).1,.int .i64 (insS d1 d2 d9 d6).2],.bool (insB d1 d9)])/\Below w.heap.size w w':=by
 have HB:Hid (∀ o o',Below w.heap.size w ((w.alloc o).alloc o')):=fun o o'=>((Below.refl _ w).alloc nR _).alloc (by simp) _;by_cases e2:d1=2
 ·subst e2;have eS:insS 2 d2 d9 d6=(⟨#[]⟩,0):=by simp [insS]
  have eB:insB 2 d9=true:=by simp [insB]
  rw [eS,eB];clear eS eB;go_enter Tryz.func36,Tryz.ntmps36
  go_wp2;exact bodyPost_ret (v:=.tuple #[.agg #[.string ⟨#[]⟩,.int .i64 0],.bool true]) (by simp [results,go_sem]) rfl ⟨rfl,HB.out _ _⟩
 have f2:decide (d1=2)=false:=by simp [e2]
 have f2':(d1 == 2)=false:=by simpa using e2
 by_cases e4:d1=4/\0 < d9
 ·obtain ⟨rfl,e9⟩:=e4;have eS:insS 4 d2 d9 d6=(d6,d2):=by simp [insS,e9]
  have eB:insB 4 d9=true:=by simp [insB,e9]
  rw [eS,eB];have f9:decide (0 < d9)=true:=by simp [e9]
  have CC:=hide (fun W=>zdt d6 W (by omega));have HW:Hid (∀ W,Below ((w.alloc (.cells #[.int .i64 d0,.int .i64 4,.int .i64 d2,.int .i64 d3,.int .i64 d4,.int .i64 d5,.string d6,.bool d7,.bool d8,.int .i64 d9,.slice pa pn pc] 41)).alloc (.cells #[.string ⟨#[]⟩,.int .i64 0] 49)).heap.size ((w.alloc (.cells #[.int .i64 d0,.int .i64 4,.int .i64 d2,.int .i64 d3,.int .i64 d4,.int .i64 d5,.string d6,.bool d7,.bool d8,.int .i64 d9,.slice pa pn pc] 41)).alloc (.cells #[.string ⟨#[]⟩,.int .i64 0] 49)) W->AtC W w.heap.size 41 #[.int .i64 d0,.int .i64 4,.int .i64 d2,.int .i64 d3,.int .i64 d4,.int .i64 d5,.string d6,.bool d7,.bool d8,.int .i64 d9,.slice pa pn pc]/\AtC W (w.heap.size+1) 49 #[.string ⟨#[]⟩,.int .i64 0]/\Below w.heap.size w W):=fun W b=>by
   refine ⟨((AtC.new w 41 _).alloc _).over b,?_,(HB.out _ _).trans (b.mono (by simp;omega))⟩;have:=(AtC.new (w.alloc (.cells #[.int .i64 d0,.int .i64 4,.int .i64 d2,.int .i64 d3,.int .i64 d4,.int .i64 d5,.string d6,.bool d7,.bool d8,.int .i64 d9,.slice pa pn pc] 41)) 49 #[.string ⟨#[]⟩,.int .i64 0]).over b
   rwa [World.size_alloc] at this
  clear eS eB f2 f2' e2;go_enter Tryz.func36,Tryz.ntmps36
  go_upto_region 4 with fail
  refine zar (by kernel_rfl) [0,1,2,3,4,5] [6,7] [] (fun i=>match i with|0=>.const [] (.pointer (some ⟨w.heap.size,6,none⟩))|1=>.const [0] (.string d6)|2=>.const [1] (.string d6)|3=>.const [] (.pointer (some ⟨w.heap.size,2,none⟩))|4=>.const [3] (.int .i64 d2)|5=>.const [2,4] (.agg #[.string d6,.int .i64 d2])|_=>.triv) (fun x=>⟨#[.agg #[.int .i64 d0,.int .i64 4,.int .i64 d2,.int .i64 d3,.int .i64 d4,.int .i64 d5,.string d6,.bool d7,.bool d8,.int .i64 d9,.slice pa pn pc],.pointer (some ⟨w.heap.size,0,none⟩),.pointer (some ⟨w.heap.size+1,0,none⟩),.bool false,.bool false,.pointer (some ⟨w.heap.size,1,none⟩),.int .i64 4,.bool false,undef,.bool true,.pointer (some ⟨w.heap.size,1,none⟩),.int .i64 4,.bool true,.bool true,.pointer (some ⟨w.heap.size,9,none⟩),.int .i64 d9,.bool true,.bool true,x 0,x 1,x 2,x 3,x 4,x 5,undef],[]⟩) (fun i=>match i with|0=>undef|1=>undef|2=>undef|3=>undef|4=>undef|5=>undef|_=>undef) rfl (zat (by kernel_rfl) (by kernel_rfl)) (by kernel_rfl) (by kernel_rfl) (by kernel_rfl) rfl ?_ ?_ (by intro q hq;cases hq)
  ·intro jo hj so x iw W hd hp K hK;simp only [List.mem_cons,List.not_mem_nil,or_false] at hj;rcases hj with rfl|rfl|rfl|rfl|rfl|rfl<;>refine wpOp_step (o:=_) rfl fun K' hK'=>?_<;>have HK:=hide (fun (v:Value) (W':World) h1 h2=>hK' _ _ (hK v W' h1 h2))<;>simp only [upd,Nat.reduceEqDiff,if_true,if_false] at HK
   ·exact cQ9
   ·have e0:x 0=.pointer (some ⟨w.heap.size,6,none⟩):=hp.post 0 (hd 0 mz0);have bw:=HW.out W (zac hp.bel);have k0:=bw.1.c6;clear bw;simp only [e0] at HK ⊢;go_simp;exact HK.out _ _ bR rfl
   ·have e1:x 1=.string d6:=hp.post 1 (hd 1 mz0);simp only [e1] at HK ⊢;clear e1;go_simp;refine (CC.out W).mono ?_;rintro e w6 ⟨rfl,B6⟩;go_simp;exact HK.out _ _ B6 rfl
   ·exact cQ9
   ·have e3:x 3=.pointer (some ⟨w.heap.size,2,none⟩):=hp.post 3 (hd 3 mz0);have bw:=HW.out W (zac hp.bel);have k0:=bw.1.c2;clear bw;simp only [e3] at HK ⊢;go_simp;exact HK.out _ _ bR rfl
   ·have e2:x 2=.string d6:=hp.post 2 (hd 2 mz0);have e4:x 4=.int .i64 d2:=hp.post 4 (hd 4 mz1);simp only [e2,e4] at HK ⊢;go_simp;exact HK.out _ _ bR rfl
  ·intro x iw W hp;have e5:x 5=.agg #[.string d6,.int .i64 d2]:=hp.post 5 (by decide);have bw:=HW.out W (zac hp.bel);have s0:=bw.2.1.c0;have s1:=bw.2.1.c1;have z0:=bw.2.1.frozen 0;have z1:=bw.2.1.frozen 1;have HQ:=hide ((bw.2.2.setCell (p:=⟨w.heap.size+1,0,none⟩) (by simp) (.string d6)).setCell (p:=⟨w.heap.size+1,1,none⟩) (by simp) (.int .i64 d2));clear bw;simp only [e5];clear hp e5;go_wp2_with fail
   try rw [List.filterMap_nil]
   try go_wp2
   exact bodyPost_ret (v:=.tuple #[.agg #[.string d6,.int .i64 d2],.bool true]) (by simp [results,go_sem,s0,s1]) rfl ⟨rfl,HQ.out⟩
 ·have eS:insS d1 d2 d9 d6=(⟨#[]⟩,0):=by unfold insS;rw [if_neg e4]
  have eB:insB d1 d9=false:=by
   unfold insB;rw [f2,Bool.false_or];by_cases q:d1=4
   ·have:¬ 0 < d9:=fun h=>e4 ⟨q,h⟩;simp [this]
   ·simp [q]
  rw [eS,eB];clear eS eB;by_cases q:d1=4
  ·subst q;have f9:decide (0 < d9)=false:=by simp;exact Int.not_lt.1 (fun h=>e4 ⟨rfl,h⟩)
   clear e4;go_enter Tryz.func36,Tryz.ntmps36
   go_wp2;exact bodyPost_ret (v:=.tuple #[.agg #[.string ⟨#[]⟩,.int .i64 0],.bool false]) (by simp [results,go_sem]) rfl ⟨rfl,HB.out _ _⟩
  ·have f4:decide (d1=4)=false:=by simp [q]
   have f4':(d1 == 4)=false:=by simpa using q
   clear e4;go_enter Tryz.func36,Tryz.ntmps36
   go_wp2;exact bodyPost_ret (v:=.tuple #[.agg #[.string ⟨#[]⟩,.int .i64 0],.bool false]) (by simp [results,go_sem]) rfl ⟨rfl,HB.out _ _⟩
attribute [local go_sem] Oper.semAt_some
def lo2 (p:Int) (ds:List Dp):List (Int×Sl):=(ds.filter fun d=>insB d.kd d.af && decide (d.bk=p)).map fun d=>(d.sl,insS d.kd d.io d.af d.nm)
theorem lo2_yes {p:Int}{ds:List Dp}{k:Nat}(h:k < ds.length)(h1:insB ds[k].kd ds[k].af=true)(h2:ds[k].bk=p):lo2 p (ds.take (k+1))=lo2 p (ds.take k) ++ [(ds[k].sl,insS ds[k].kd ds[k].io ds[k].af ds[k].nm)]:=by
 unfold lo2;rw [List.take_succ_eq_append_getElem h,List.filter_append,List.map_append];simp [h1,h2]
theorem lo2_no {p:Int}{ds:List Dp}{k:Nat}(h:k < ds.length)(h1:¬ (insB ds[k].kd ds[k].af=true/\ds[k].bk=p)):lo2 p (ds.take (k+1))=lo2 p (ds.take k):=by
 unfold lo2;rw [List.take_succ_eq_append_getElem h,List.filter_append,List.map_append];by_cases e:insB ds[k].kd ds[k].af=true
 ·have q:¬ ds[k].bk=p:=fun q=>h1 ⟨e,q⟩;simp [q]
 ·simp [e]
theorem lo2_len (p:Int)(ds:List Dp)(k:Nat):(lo2 p (ds.take k)).length<=k:=by
 unfold lo2;rw [List.length_map];exact Nat.le_trans (List.length_filter_le _ _) (by simp;omega)
theorem zci {W W':World}(h:Below W.heap.size W W'):W.grownBy W' none:=⟨h.os,h.tape,h.output,h.size,fun k hk _=>h.block k hk⟩
theorem KpX.below {g n:Nat}{A B C:World}(h:KpX g n A B)(hn:n<=A.heap.size)(hb:Below B.heap.size B C):KpX g n A C:=⟨Nat.le_trans h.1 hb.size,fun b h1 h2=>(hb.block b (Nat.lt_of_lt_of_le h1 (Nat.le_trans hn h.1))).trans (h.2 b h1 h2)⟩
def encS (x:Int×Sl):Array Value:=#[.int .i64 x.1,.agg #[.string x.2.1,.int .i64 x.2.2]]
theorem zj4 (l Bd Bi g n₁:Nat)(ad:Option Addr)(cap:Nat)(ds:List Dp)(p:Int)(hl:ds.length<=1000000)(hnm:∀ d∈ds,d.nm.size<=1000)(J Jx:List (Int×Sl)->World->Prop)(W:World)
  (hJ:AbidesFrom W.heap.size J)
  (hY:∀ pre x W1,J pre W1->pre.length < ds.length->YieldAt Fence.wide (2 - 1) Tryz.prog l (encS x) W1 fun e W' =>
   (e=.returned (.bool true)/\J (pre ++ [x]) W'/\KpX g n₁ W1 W')\/(e=.returned (.bool false)/\Jx (pre ++ [x]) W'))
  (hn₁:n₁<=W.heap.size) (hbi:Bi < n₁/\Bi≠g)
  (hBd:W.cell? ⟨Bd,0,none⟩=some (.slice ad ds.length cap)) (hBi:W.cell? ⟨Bi,0,none⟩=some (.int .i64 p))
  (hD:∀ (j:Nat) (h:j < ds.length),∃ b off pa pn pc,ad=some ⟨b,off,none⟩/\b < n₁/\b≠g/\DCells W b (off+j * 11) ds[j] (.slice pa pn pc)) (h0:J [] W) :
  CallsIn Fence.wide 2 Tryz.prog 35 #[.func (.yield l) #[] #[],.pointer (some ⟨Bd,0,none⟩),.pointer (some ⟨Bi,0,none⟩)] W fun e W'=>(∃ v,e=.returned v) /\
   ((∃ ys,ys=lo2 p ds/\J ys W')\/(∃ pre,True/\Jx pre W')):=by
 have HD:=hide hD;have HJ:=hide hJ;have HY:=hide hY;have HNM:=hide hnm;clear hD hJ hY hnm;refine callsIn_of_wp Tryz.func35 rfl trivial ?_ rfl;simp only [Tryz.ntmps35,List.size_toArray,List.length_cons,List.length_nil,Nat.reduceAdd,Nat.reduceSub,Array.replicate_succ,Array.replicate_zero,List.push_toArray,List.append_toArray,List.nil_append,List.cons_append]
 gi_wp2
 gi_loopw [10] (fun iv wr=>∃ k:Nat,k<=ds.length/\iv=.int .i64 k/\Hid (J (lo2 p (ds.take k)) wr/\KpX g n₁ W wr)) (fun iv _=>ds.length - (intOf iv).toNat)
 case atStart=>exact ⟨0,Nat.zero_le _,rfl,h0,KpX.refl _ _ _⟩
 case round =>
  obtain ⟨k,hk,rfl,HR⟩:=hrel;have k0:(0:Int)<=(k:Int):=by omega
  by_cases hlt:k < ds.length
  ·obtain ⟨b,off,pa,pn,pc,rfl,hb1,hb2,hc⟩:=HD.out k hlt;have hc':=DCells.kp HR.out.2 hc hb1 hb2;have hbi':=(HR.out.2.cell (p:=⟨Bi,0,none⟩) hbi.1 hbi.2).trans hBi;have HYk:=hide (fun (h1:insB ds[k].kd ds[k].af=true) (h2:ds[k].bk=p)=>lo2_yes hlt h1 h2);have HNk:=hide (fun (h1:¬ (insB ds[k].kd ds[k].af=true/\ds[k].bk=p))=>lo2_no hlt h1);have HLk:=hide (lo2_len p ds k);have hn6:=HNM.out _ (List.getElem_mem hlt);obtain ⟨d,hd⟩:∃ d,ds[k]=d:=⟨_,rfl⟩
   rw [hd] at hc' HYk HNk hn6;have k1:(k:Int) < (ds.length:Int):=by omega
   obtain ⟨c0,c1,c2,c3,c4,c5,c6,c7,c8,c9,c10⟩:=hc';have hsz:=HR.out.2.1;have hbw:¬ b=wr.heap.size:=by omega
   clear hc hd;obtain ⟨d0,d1,d2,d3,d4,d5,d6,d7,d8,d9,d10⟩:=d;simp only at c0 c1 c2 c3 c4 c5 c6 c7 c8 c9 HYk HNk hn6;have hbj:(wr.alloc (.cells #[.int .i64 d0,.int .i64 d1,.int .i64 d2,.int .i64 d3,.int .i64 d4,.int .i64 d5,.string d6,.bool d7,.bool d8,.int .i64 d9,.slice pa pn pc] 41)).cell? ⟨Bi,0,none⟩=some (.int .i64 p):=(World.cell?_alloc_lt _ _ ⟨Bi,0,none⟩ (by have:=hbi.1;show Bi < _;omega)).trans hbi';have HJA:=hide (HJ.out _ _ _ none HR.out.1 (World.grownBy_alloc wr (.cells #[.int .i64 d0,.int .i64 d1,.int .i64 d2,.int .i64 d3,.int .i64 d4,.int .i64 d5,.string d6,.bool d7,.bool d8,.int .i64 d9,.slice pa pn pc] 41) none) (fun r e=>by cases e));have HKA:=hide (HR.out.2.alloc hn₁ (.cells #[.int .i64 d0,.int .i64 d1,.int .i64 d2,.int .i64 d3,.int .i64 d4,.int .i64 d5,.string d6,.bool d7,.bool d8,.int .i64 d9,.slice pa pn pc] 41));have HAD:=hide (AtC.new wr 41 #[.int .i64 d0,.int .i64 d1,.int .i64 d2,.int .i64 d3,.int .i64 d4,.int .i64 d5,.string d6,.bool d7,.bool d8,.int .i64 d9,.slice pa pn pc]);have HZ:Hid (n₁<=wr.heap.size):=Nat.le_trans hn₁ hsz
   gi_wp2_with fail
   refine ⟨trivial,(callsIn_wide.2 (inst_any d0 d1 d2 d3 d4 d5 d9 d6 d7 d8 pa pn pc _ hn6)).mono ?_⟩;rintro e w2 ⟨rfl,b2⟩;have hbk:=(b2.cell (p:=⟨Bi,0,none⟩) (by have:=hbi.1;show Bi < _;simp;omega)).trans hbj;have a2:=HAD.out.over b2;have s4:=a2.c4;have s5:=a2.c5;have hz2:wr.heap.size < w2.heap.size:=a2.lt;have HJ2:=hide (HJ.out _ _ _ none (HJ.out _ _ _ none HJA.out (zci b2) (fun r e=>by cases e)) (World.grownBy_alloc w2 (.cells #[.string (insS d1 d2 d9 d6).1,.int .i64 (insS d1 d2 d9 d6).2] 49) none) (fun r e=>by cases e));have HK2:=hide ((HKA.out.below hn₁ b2).alloc hn₁ (.cells #[.string (insS d1 d2 d9 d6).1,.int .i64 (insS d1 d2 d9 d6).2] 49));obtain ⟨iS,hiS⟩:∃ S,insS d1 d2 d9 d6=S:=⟨_,rfl⟩
   obtain ⟨iB,hiB⟩:∃ B,insB d1 d9=B:=⟨_,rfl⟩
   simp only [hiS,hiB] at HJ2 HK2 HYk HNk ⊢;obtain ⟨n1,n2⟩:=iS;simp only at HJ2 HK2 HYk HNk ⊢;have hB2:(w2.alloc (.cells #[.string n1,.int .i64 n2] 49)).cell? ⟨Bi,0,none⟩=some (.int .i64 p):=(World.cell?_alloc_lt _ _ ⟨Bi,0,none⟩ (by have:=hbi.1;show Bi < _;omega)).trans hbk;have t4:(w2.alloc (.cells #[.string n1,.int .i64 n2] 49)).cell? ⟨wr.heap.size,4,none⟩=some (.int .i64 d4):=(World.cell?_alloc_lt _ _ ⟨wr.heap.size,4,none⟩ hz2).trans s4;have t5:(w2.alloc (.cells #[.string n1,.int .i64 n2] 49)).cell? ⟨wr.heap.size,5,none⟩=some (.int .i64 d5):=(World.cell?_alloc_lt _ _ ⟨wr.heap.size,5,none⟩ hz2).trans s5;clear hiS hiB a2 b2
   cases iB with
   | true =>
    by_cases e2:d4=p
    ·subst e2;obtain ⟨fn,tmps,assign,body,hy,hR⟩:=HY.out _ (d5,(n1,n2)) _ HJ2.out (Nat.lt_of_le_of_lt HLk.out hlt)
     dsimp only [encS] at hy
     have hyes:=HYk.out rfl rfl
     gi_wp2
     refine hR.mono ?_;rintro e W3 (⟨rfl,hJ3,hk3⟩ | ⟨rfl,hJx3⟩)
     ·have HE:Hid (J (lo2 d4 (ds.take (k+1))) W3/\KpX g n₁ W W3):=⟨by rw [hyes];exact hJ3,HK2.out.trans hk3⟩
      exact cQ104
     ·exact cQ90
    ·have e3:decide (d4=p)=false:=by simp [e2]
     have e3':(d4 == p)=false:=by simpa using e2
     have HE:Hid (J (lo2 p (ds.take (k+1))) (w2.alloc (.cells #[.string n1,.int .i64 n2] 49))/\KpX g n₁ W (w2.alloc (.cells #[.string n1,.int .i64 n2] 49))):=⟨by rw [HNk.out (fun q=>e2 q.2)];exact HJ2.out,HK2.out⟩
     exact cQ40
   | false =>
    have HE:Hid (J (lo2 p (ds.take (k+1))) (w2.alloc (.cells #[.string n1,.int .i64 n2] 49))/\KpX g n₁ W (w2.alloc (.cells #[.string n1,.int .i64 n2] 49))):=⟨by rw [HNk.out (fun q=>by cases q.1)];exact HJ2.out,HK2.out⟩
    exact cQ40
  ·exact cQ77
theorem zgt (Bd Bi g n₁:Nat)(ad:Option Addr)(cap:Nat)(ds:List Dp)(p:Int)(hl:ds.length<=1000000)(hnm:∀ d∈ds,d.nm.size<=1000)(w:World)
  (hn₁:n₁<=w.heap.size) (hbd:Bd < n₁) (hbi:Bi < n₁/\Bi≠g) (hBd:w.cell? ⟨Bd,0,none⟩=some (.slice ad ds.length cap)) (hBi:w.cell? ⟨Bi,0,none⟩=some (.int .i64 p))
  (hD:∀ (j:Nat) (h:j < ds.length),∃ b off pa pn pc,ad=some ⟨b,off,none⟩/\b < n₁/\b≠g/\DCells w b (off+j * 11) ds[j] (.slice pa pn pc)) :
  SeqStopsK Fence.wide 2 Tryz.prog 35 #[.pointer (some ⟨Bd,0,none⟩),.pointer (some ⟨Bi,0,none⟩)] encS (KpX g n₁) (fun ys=>ys=lo2 p ds) (fun _=>True) ds.length w:=fun l J Jx W hW hJ _ hY h0 =>
 zj4 l Bd Bi g n₁ ad cap ds p hl hnm J Jx W hJ hY (Nat.le_trans hn₁ hW.size) hbi ((hW.cell (p:=⟨Bd,0,none⟩) (Nat.lt_of_lt_of_le hbd hn₁)).trans hBd) ((hW.cell (p:=⟨Bi,0,none⟩) (Nat.lt_of_lt_of_le hbi.1 hn₁)).trans hBi)
  (fun j h=>let ⟨b,off,pa,pn,pc,e,h1,h2,h3⟩:=hD j h;⟨b,off,pa,pn,pc,e,h1,h2,h3.below hW (Nat.lt_of_lt_of_le h1 hn₁)⟩) h0
end Go.Proofs.YtmbimpmebfoglaaGreat
