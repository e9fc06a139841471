/- Texts. -/
import Derived.Shelf.SlSortCmp.NoneTotal
import Derived.Test.YtgnplpmgkegcnaaGreatProg
import Derived.Test.YtgnplpmgkegcnaaGreatW01
set_option maxRecDepth 100000
set_option maxHeartbeats 12800000
namespace Go.Proofs.YtgnplpmgkegcnaaGreat
namespace Kit
open Go.RowKit Go.Maps
structure Ln where
 pl:Nat
 d:Dp
 b:Nat
def ptrV:Option Nat->Value
 | none=>.pointer none
 | some b=>.pointer (some ⟨b,0,none⟩)
def datP:Option Nat->DataW Nat
 | none=>.nil
 | some b=>.held b
def ptrE:Va->Option (DataW Nat×List MemPlace)
 | .pointer none=>some (.nil,[])
 | .pointer (some ⟨b,0,none⟩)=>some (.held b,[])
 | _=>none
theorem zn5(o:Option Nat):ptrE (ptrV o)=some (datP o,[]):=by cases o<;>rfl
theorem zj8{v:Va}{y:DataW Nat×List MemPlace}(h:ptrE v=some y):∃o,v=ptrV o/\y=(datP o,[]):=by
 unfold ptrE at h
 split at h
 ·cases h;exact⟨none,rfl,rfl⟩
 ·cases h;exact⟨some _,rfl,rfl⟩
 ·cases h
theorem zj9{o o':Option Nat}(h:datP o=datP o'):o=o':=by
 cases o<;>cases o'<;>simp[datP]at h ⊢
 exact h
def lastP(id:Int)(E:List Ln):Option Nat:=E.foldl (fun acc e=>if e.d.id=id then some e.b else acc) none
theorem zee(id:Int)(E:List Ln)(e:Ln):lastP id (E++[e])=if e.d.id=id then some e.b else lastP id E:=by simp[lastP,List.foldl_append]
theorem zlj(id:Int)(E:List Ln)(j:Nat)(h:j<E.length):lastP id (E.take (j+1))=if E[j].d.id=id then some E[j].b else lastP id (E.take j):=by
 rw[←tG h,zee]
theorem zef(id:Int)(E:List Ln):∀(t:Nat),t<=E.length->(lastP id (E.take t)=none/\∀(j:Nat)(h:j<E.length),j<t->E[j].d.id≠id)\/∃(i:Nat)(h:i<E.length),i<t/\lastP id (E.take t)=some E[i].b/\E[i].d.id=id/\∀(j:Nat)(h:j<E.length),i<j->j<t->E[j].d.id≠id:=by
 intro t
 induction t with
 | zero=>exact fun _=>.inl ⟨by simp[lastP],fun j _ h=>oM⟩
 | succ t ih =>
  intro ht;rw[zlj id E t oM];by_cases e:E[t].d.id=id
  ·refine .inr ⟨t,oM,oM,by rw[if_pos e],e,fun j hj h1 h2=>oM⟩
  ·rw[if_neg e];rcases ih oM with⟨h1,h2⟩| ⟨i,hi,h1,h2,h3,h4⟩
   ·exact .inl ⟨h1,fun j hj hjt=>by
     by_cases e2:j=t
     ·subst e2;exact e
     ·exact h2 j hj oM⟩
   ·exact .inr ⟨i,hi,oM,h2,h3,fun j hj h5 h6=>by
     by_cases e2:j=t
     ·subst e2;exact e
     ·exact h4 j hj h5 oM⟩
def lnRow(d:Dp)(p:Va)(pl:Nat)(o:Option Nat):Array Va:=#[.int .i64 d.id,.int .i64 d.kd,.int .i64 d.io,.int .i64 d.pt,.int .i64 d.bk,.int .i64 d.sl,.string d.nm,.bool d.bt,.bool d.ot,.int .i64 d.af,p,.int .i64 (pl:Int),ptrV o]
structure LEN(P:Program)(w:Wd)(L B:Nat)(E:List Ln)(ps:List Va)(N:Nat):Prop where
 len:ps.length=E.length
 map:∃D,w.ownsMap P 3 ptrE B N D/\(∀id,(Lit.int .i64 id).wf=true->D.atKey (.int .i64 id) .nil=datP (lastP id E))/\∀id,(Lit.int .i64 id).wf=true->Maps.has D (.int .i64 id)=(lastP id E).isSome
 cell:∀(j:Nat)(h:j<E.length)(h':j<ps.length),AtC w E[j].b 142 (lnRow E[j].d ps[j] E[j].pl (lastP E[j].d.id (E.take j)))
 own:∀(j:Nat)(h:j<E.length)(h':j<ps.length),ROwns w 0 3 ps[j] (ic E[j].d.bl)
 loB:L<=B
 lob:∀(j:Nat)(h:j<E.length),L<=E[j].b
 lop:∀(j:Nat)(h:j<ps.length)(k:Nat),ps[j].ownBlock=some k->L<=k
 nb:∀(i j:Nat)(hi:i<E.length)(hj:j<E.length),i≠j->E[i].b≠E[j].b
 nB:∀(j:Nat)(h:j<E.length),E[j].b≠B
 np:∀(i j:Nat)(hi:i<ps.length)(hj:j<ps.length),i≠j->∀k,ps[i].ownBlock=some k->ps[j].ownBlock≠some k
 npb:∀(i j:Nat)(hi:i<ps.length)(hj:j<E.length)(k:Nat),ps[i].ownBlock=some k->E[j].b≠k
 npB:∀(i:Nat)(hi:i<ps.length)(k:Nat),ps[i].ownBlock=some k->k≠B
 wf:∀(j:Nat)(h:j<E.length),(Lit.int .i64 E[j].d.id).wf=true
abbrev LE(P:Program)(w:Wd)(L B:Nat)(E:List Ln)(ps:List Va):Prop:=LEN P w L B E ps E.length
namespace LEN
variable {P : Program} {w w' w1 w2 : World} {L B : Nat} {E : List Ln} {ps : List Value} {N : Nat}
theorem lt(h:LEN P w L B E ps N):B<w.1.size:=by obtain⟨D,h1,-⟩:=h.map;exact h1.lt
theorem below(h:LEN P w L B E ps N)(hb:Below w.1.size w w'):LEN P w' L B E ps N:=by
 obtain⟨D,h1,h2,h3⟩:=h.map;exact⟨h.len,⟨D,h1.kept (zal hb none) sI,h2,h3⟩,fun j hj hj'=>(h.cell j hj hj').over hb,fun j hj hj'=>(h.own j hj hj').below hb nR,h.loB,h.lob,h.lop,h.nb,h.nB,h.np,h.npb,h.npB,h.wf⟩
theorem mono(h:LEN P w L B E ps N){L':Nat}(hl:L'<=L):LEN P w L' B E ps N :=
 ⟨h.len,h.map,h.cell,h.own,Nat.le_trans hl h.loB,fun j hj=>Nat.le_trans hl (h.lob j hj),fun j hj k hk=>Nat.le_trans hl (h.lop j hj k hk),h.nb,h.nB,h.np,h.npb,h.npB,h.wf⟩
theorem look(h:LEN P w L B E ps N){t e:TypeId}(hk:P.underlying 3=some (.int .i64))(ht:P.underlying t=some (.map 3 e))(hz:∀w,(zeroValue e).run P w=.ok (.pointer none) w){id:Int}(hw:(Lit.int .i64 id).wf=true):
  (Instr.lookup t (.map (some B)) (.int .i64 id) false).run P w=.ok (ptrV (lastP id E)) w:=by
 obtain⟨D,h1,h2,-⟩:=h.map;obtain⟨v,q,hr,hv⟩:=h1.lookup (int_keyed hk) ht (hz w) (zn5 none) (keyOf_int_mk hk hw);obtain⟨o,rfl,ho⟩:=zj8 hv;have e1:D.atKey (.int .i64 id) .nil=datP o:=by
  have:=congrArg Prod.fst ho;exact this
 rw[h2 id hw]at e1;rw[hr,zj9 e1]
end LEN
namespace LE
variable {P : Program} {w w' w1 w2 : World} {L B : Nat} {E : List Ln} {ps : List Value}
theorem nil(P:Program)(w:World):LE P (w.alloc (.map #[] 0)) w.1.size w.1.size [] [] :=
 ⟨rfl,⟨_,World.ownsMap_made _ _ _ _,fun id _=>rfl,fun id _=>rfl⟩,fun j h=>by simp at h,fun j h=>by simp at h,Nat.le_refl _,fun j h=>by simp at h,fun j h=>by simp at h,fun i j h=>by simp at h,fun j h=>by simp at h,fun i j h=>by simp at h,fun i j h=>by simp at h,fun i h=>by simp at h,fun j h=>by simp at h⟩
theorem put(h:LE P w L B E ps)(hk:P.underlying 3=some (.int .i64))(hb:Below w.1.size w w1){g:Nat}{p:Value}{d:Dp}{pl:Nat}(hg:AtC w1 g 142 (lnRow d p pl (lastP d.id E)))(hgl:w.1.size<=g)(hp:ROwns w1 0 3 p (ic d.bl))(hpl:∀k,p.ownBlock=some k->w.1.size<=k/\k≠g)(hw:(Lit.int .i64 d.id).wf=true)(hL:L<=w.1.size):
  ∃D,w1.ownsMap P 3 ptrE B E.length D/\∀w2,w2.ownsMap P 3 ptrE B (E.length+1) (D.put (.int .i64 d.id) (.held g))->w1.grownBy w2 (some B)->LE P w2 L B (E++[⟨pl,d,g⟩]) (ps++[p]):=by
 have h1:=h.below hb;have hBl:=h.lt;have hbl:∀(j:Nat)(hj:j<E.length),E[j].b<w.1.size:=fun j hj=>(h.cell j hj (by rw[h.len];exact hj)).lt;have hpl0:∀(j:Nat)(hj:j<ps.length)(k:Nat),ps[j].ownBlock=some k->k<w.1.size:=fun j hj k hk=>((h.own j (by rw[←h.len];exact hj) hj).lt k hk).2;obtain⟨D,m1,m2,m3⟩:=h1.map;refine⟨D,m1,fun w2 hm hgr=>?_⟩;have hsz:=hb.size;have oth:∀k,k<w1.1.size->k≠B->w2.1[k]?=w1.1[k]?:=fun k hk hne=>hgr.block k hk (fun e=>hne (by cases e;rfl));have hkl:WideAt.IsKeyLit (.int .i64 d.id):=(int_keyed hk).key (keyOf_int_mk hk hw);have hlen:=h.len;have at_e:∀(j:Nat) (hj:j<(E++[(⟨pl,d,g⟩:Ln)]).length),(∃h':j<E.length,(E++[(⟨pl,d,g⟩:Ln)])[j]=E[j]/\(E++[(⟨pl,d,g⟩:Ln)]).take j=E.take j)\/(j=E.length/\(E++[(⟨pl,d,g⟩:Ln)])[j]=⟨pl,d,g⟩/\(E++[(⟨pl,d,g⟩:Ln)]).take j=E):=fun j hj=>by
  by_cases e:j<E.length
  ·exact .inl ⟨e,List.getElem_append_left e,List.take_append_of_le_length (Nat.le_of_lt e)⟩
  ·have e2:j=E.length:=by simp at hj;omega
   subst e2;exact .inr ⟨rfl,by simp,by simp⟩
 have at_p:∀(j:Nat) (hj:j<(ps++[p]).length),(∃h':j<ps.length,(ps++[p])[j]=ps[j])\/(j=ps.length/\(ps++[p])[j]=p):=fun j hj=>by
  by_cases e:j<ps.length
  ·exact .inl ⟨e,List.getElem_append_left e⟩
  ·have e2:j=ps.length:=by simp at hj;omega
   subst e2;exact .inr ⟨rfl,by simp⟩
 refine⟨by simp[hlen],⟨_,by rw[List.length_append];exact hm,fun id hid=>?_,fun id hid=>?_⟩,fun j hj hj'=>?_,fun j hj hj'=>?_,h.loB,fun j hj=>?_,fun j hj k hk=>?_,fun i j hi hj hne=>?_,fun j hj=>?_,fun i j hi hj hne k e1 e2=>?_,fun i j hi hj k e1=>?_,fun i hi k e1=>?_,fun j hj=>?_⟩
 ·rw[zee];by_cases e:d.id=id
  ·subst e;rw[if_pos rfl,atKey_put_same m1.isMap hkl];rfl
  ·rw[if_neg e,atKey_put_other (fun q=>e (by injection q with _ q2;exact q2.symm)),m2 id hid]
 ·rw[zee];by_cases e:d.id=id
  ·subst e;rw[if_pos rfl,has_put_same m1.isMap hkl];rfl
  ·rw[if_neg e,has_put_other (fun q=>e (by injection q with _ q2;exact q2.symm)),m3 id hid]
 ·rcases at_e j hj with⟨h',q1,q2⟩| ⟨q0,q1,q2⟩
  ·rcases at_p j hj' with⟨h2,r1⟩| ⟨r0,-⟩
   ·rw[q1,q2,r1];exact(oth _ (by have:=hbl j h';omega) (h.nB j h')).trans (h1.cell j h' h2)
   ·omega
  ·rcases at_p j hj' with⟨h2,-⟩| ⟨-,r1⟩
   ·omega
   ·rw[q1,q2,r1];exact(oth g hg.lt oM).trans hg
 ·rcases at_e j hj with⟨h',q1,-⟩| ⟨q0,q1,-⟩
  ·rcases at_p j hj' with⟨h2,r1⟩| ⟨r0,-⟩
   ·rw[q1,r1];exact(h1.own j h' h2).of_heap fun k hk=>oth k (by have:=hpl0 j h2 k hk;omega) (h.npB j h2 k hk)
   ·omega
  ·rcases at_p j hj' with⟨h2,-⟩| ⟨-,r1⟩
   ·omega
   ·rw[q1,r1];exact hp.of_heap fun k hk=>oth k (hp.lt k hk).2 (by have:=(hpl k hk).1;omega)
 ·rcases at_e j hj with⟨h',q1,-⟩| ⟨-,q1,-⟩
  ·rw[q1];exact h.lob j h'
  ·rw[q1];show L<=g;omega
 ·rcases at_p j hj with⟨h2,r1⟩| ⟨-,r1⟩
  ·rw[r1]at hk;exact h.lop j h2 k hk
  ·rw[r1]at hk;have:=(hpl k hk).1;omega
 ·rcases at_e i hi with⟨h1',q1,-⟩| ⟨q0,q1,-⟩<;>rcases at_e j hj with⟨h2',r1,-⟩| ⟨r0,r1,-⟩<;>rw[q1,r1]
  ·exact h.nb i j h1' h2' hne
  ·have:=hbl i h1';show E[i].b≠g;omega
  ·have:=hbl j h2';show g≠E[j].b;omega
  ·omega
 ·rcases at_e j hj with⟨h',q1,-⟩| ⟨-,q1,-⟩
  ·rw[q1];exact h.nB j h'
  ·rw[q1];show g≠B;omega
 ·rcases at_p i hi with⟨h1',q1⟩| ⟨q0,q1⟩<;>rcases at_p j hj with⟨h2',r1⟩| ⟨r0,r1⟩<;>rw[q1]at e1<;>rw[r1]at e2
  ·exact h.np i j h1' h2' hne k e1 e2
  ·have:=hpl0 i h1' k e1;have:=(hpl k e2).1;omega
  ·have:=hpl0 j h2' k e2;have:=(hpl k e1).1;omega
  ·omega
 ·rcases at_p i hi with⟨h1',q1⟩| ⟨q0,q1⟩<;>rcases at_e j hj with⟨h2',r1,-⟩| ⟨r0,r1,-⟩<;>rw[q1]at e1<;>rw[r1]
  ·exact h.npb i j h1' h2' k e1
  ·have:=hpl0 i h1' k e1;show g≠k;omega
  ·have:=(hpl k e1).1;have:=hbl j h2';show E[j].b≠k;omega
  ·exact fun e=>(hpl k e1).2 e.symm
 ·rcases at_p i hi with⟨h1',q1⟩| ⟨q0,q1⟩<;>rw[q1]at e1
  ·exact h.npB i h1' k e1
  ·have:=(hpl k e1).1;omega
 ·rcases at_e j hj with⟨h',q1,-⟩| ⟨-,q1,-⟩
  ·rw[q1];exact h.wf j h'
  ·rw[q1];exact hw
end LE
end Kit
open Go.RowKit Kit
def cmpI(x y:Int):Int:=if x<y then -1 else if y<x then 1 else 0
theorem zfu(x:Int)(w:Wd):Calls Tryz.prog 132 #[nI x] w fun e w'=>e=.returned (.bool false)/\w'=w:=by
 go_enter Tryz.func132,Tryz.ntmps132
 go_wp2;go_ret;simp
theorem zja(x y:Int)(w:Wd):Calls Tryz.prog 107 #[nI x,nI y] w fun e w'=>e=.returned (nI (cmpI x y))/\w'=w:=by
 unfold cmpI;go_enter Tryz.func107,Tryz.ntmps107
 by_cases h:x<y
 ·exact cQ80
 by_cases h2:y<x
 ·exact cQ80
 exact cQ80
theorem zjb(g1 g2:Nat)(x y:Int)(w:Wd)(h1:w.cell? ⟨g1,11,none⟩=some (nI x))(h2:w.cell? ⟨g2,11,none⟩=some (nI y)):
  Calls Tryz.prog 106 #[.pointer (aA g1 0),.pointer (aA g2 0)] w fun e w'=>e=.returned (nI (cmpI x y))/\∃q,w'=w.drewN q:=by
 go_enter Tryz.func106,Tryz.ntmps106
 go_wp2;go_quiet((go_at_call 107;exact Calls.quiet_of_same (zja _ _ _)))
 go_wp2_with fail
 go_ret;exact⟨rfl,_,rfl⟩
theorem zhg(v:Va)(xs:List Bool)(w:Wd)(h:RFl w v xs)(hl:xs.length<=1048576):
  Calls Tryz.prog 70 #[v] w fun e w'=>∃u,e=.returned u/\ROwns w' w.1.size 4 u (fc xs)/\Bw w w':=by
 have HR:=hJ h;have HL:Hid (xs.length<=100000000000):=lT hl dC;clear h hl;go_enter Tryz.func70,Tryz.ntmps70
 go_wp2_with (at_builtin;refine zai _ rfl _ _ 24 rfl w.1.size 4 Tryz.underlying24 _ 1 1 Tryz.i4 rfl dC dC _ rfl (World.ownsRow_nil _ _ _ _) nR _ rfl xs.length (fc xs) HR.o.rc (by rw[zad,Nat.mul_one]) (zjf xs) HL.o ?_;intro v' w1 R1 R2 R3)
 have HX:Hid (ROwns w1 w.1.size 4 v' (fc xs)/\Bw w w1):=⟨by unfold ROwns;rw[zad];exact R1,za5 bR nR R2 (fun k hk=>by cases hk)⟩
 clear R1 R2 R3;go_wp2;go_ret;exact⟨_,rfl,HX.o.1,HX.o.2⟩
namespace Kit
def MkF(k:Nat)(xs:List Bool):Mk:=.val [k] (fun lo hi w v=>∃a c,v=.slice a xs.length c/\ROwns w lo 4 v (fc xs)/\∀i,v.ownBlock=some i->i<hi)
 (fun _ _ _ _ _ h hb=>by obtain⟨a,c,h1,h2,h3⟩:=h;exact⟨a,c,h1,h2.below hb nR,h3⟩)
def Mk2(k l n m:Nat):Mk:=⟨[k,l],fun _ _ _ v x=>∃a c a' c',x k=.slice a n c/\x l=.slice a' m c'/\v=.agg #[.slice a n c,.slice a' m c'],fun _ _ _ _ _ _ h _=>h,fun _ _ _ _ x x' e h=>by
 obtain⟨a,c,a',c',h1,h2,h3⟩:=h;exact⟨a,c,a',c',by rw[←e k sI,h1],by rw[←e l sI,h2],h3⟩⟩
def Mk4(k n m:Nat):Mk:=⟨[k],fun _ _ _ v x=>∃a c a' c',x k=.agg #[.slice a n c,.slice a' m c']/\v=.agg #[.slice a n c,.slice a' m c',.slice none 0 0,.slice none 0 0],fun _ _ _ _ _ _ h _=>h,fun _ _ _ _ x x' e h=>by
 obtain⟨a,c,a',c',h1,h3⟩:=h;exact⟨a,c,a',c',by rw[←e k sI,h1],h3⟩⟩
def MkV(T:TypeId)(Z:Array Va):Mk:=.val [] (fun lo hi w v=>v=.pointer (some ⟨lo,0,none⟩)/\hi=lo+1/\AtC w lo T Z) (fun _ _ _ _ _ h hb=>⟨h.1,h.2.1,h.2.2.over hb⟩)
theorem zn7{w W:Wd}{A:Array Va}{b:Nat}{u v:Va}{xs ys:List Bool}(hA:AtC W w.1.size 30 A)(hR:AtC W (w.1.size+1) 30 noD)(hb:AtC W b 30 noD)(T:Two W (w.1.size+1+1) u v xs ys)(hne:∀k,(u.ownBlock=some k\/v.ownBlock=some k)->k≠b)
  (bel:Bw w W) (hbb:w.1.size+1<b):Dz w ((((W.setCell ⟨b,0,none⟩ u).setCell ⟨b,1,none⟩ v).setCell ⟨b,2,none⟩ (.slice none 0 0)).setCell ⟨b,3,none⟩ (.slice none 0 0)) A b u v (.slice none 0 0) (.slice none 0 0) xs ys [] []:=by
 have aB:∀k,k≠b->(W.s4 b u v (.slice none 0 0) (.slice none 0 0)).1[k]?=W.1[k]?:=fun k hk =>
  hs4 hk
 refine⟨(aB _ oM).trans hA,(aB _ oM).trans hR,(((hb.set 0 u).set 1 v).set 2 (.slice none 0 0)).set 3 (.slice none 0 0),?_,(((bel.setCell oD _).setCell oD _).setCell oD _).setCell oD _,hbb⟩;have aC:∀k,(u.ownBlock=some k\/v.ownBlock=some k)->w.1.size+1<k/\k≠b:=fun k hk=>⟨hk.elim (fun e=>by have:=T.a.lt k e;omega) (fun e=>by have:=T.b.lt k e;omega),hne k hk⟩
 refine⟨fun k=>u.ownBlock=some k\/v.ownBlock=some k,fun _=>False,fun _=>False,[],[],⟨(T.a.of_heap fun k hk=>aB k (hne k (.inl hk))).base_le (zL _),(T.b.of_heap fun k hk=>aB k (hne k (.inr hk))).base_le (zL _),T.ne⟩,fun k hk=>hk,⟨rfl,TOwns.nil _ _,fun j hj=>by simp at hj,fun i j hi=>by simp at hi,fun j hj=>by simp at hj,(fun k e=>by cases e),fun j hj=>by simp at hj⟩,⟨rfl,TOwns.nil _ _,fun j hj=>by simp at hj,fun i j hi=>by simp at hi,fun j hj=>by simp at hj,(fun k e=>by cases e),fun j hj=>by simp at hj⟩,fun k hk=>⟨id,id⟩,fun k hk=>hk.elim,fun k hk=>hk.elim (aC k) (fun e=>e.elim (fun e=>e.elim) (fun e=>e.elim))⟩
end Kit
theorem zjd(u v iv bv:Va)(xs ys:List Bool)(is:List Ino)(bs:List Blk)(w:Wd)(h:DR w u v iv bv xs ys is bs)(hB:Big 1048576 xs ys is bs):
  Calls Tryz.prog 69 #[.agg #[u,v,iv,bv]] w fun e w'=>∃u' v' i' b',e=.returned (.agg #[u',v',i',b'])/\DO w' (fun k=>w.1.size<=k) u' v' i' b' xs ys is bs/\Bw w w':=by
 have H:=hJ h;have HG:=hJ hB;have bU:=hB.i;have cB:=hB.b;obtain⟨a1,c1,a2,c2,a3,c3,a4,c4,rfl,rfl,rfl,rfl⟩:=h.form;clear hB h;go_enter Tryz.func69,Tryz.ntmps69
 go_wp2_with fail
 have HC:Hid (∀W,Bw ((w.n #[.slice a1 xs.length c1,.slice a2 ys.length c2,.slice a3 is.length c3,.slice a4 bs.length c4] 30).n noD 30).drew W->AtC W w.1.size 30 #[.slice a1 xs.length c1,.slice a2 ys.length c2,.slice a3 is.length c3,.slice a4 bs.length c4]/\AtC W (w.1.size+1) 30 noD/\Bw w W/\w.1.size+1+1<=W.1.size):=fun W b=>by
  have b2:=zac b;have k1:=(AtC.new (w.alloc (.cells #[.slice a1 xs.length c1,.slice a2 ys.length c2,.slice a3 is.length c3,.slice a4 bs.length c4] 30)) 30 noD).over b2;have sz:=b2.size;simp at k1 sz;exact⟨((AtC.new w 30 _).alloc _).over b2,k1,(((bF _ w).alloc nR _).alloc sI _).trans (b2.mono sO),sz⟩
 refine zau kL [0,1,2,3,4,5,6,7,8,9,10] [11] (fun i=>match i with|0=>.const [] (.pointer (some ⟨w.1.size,0,none⟩))|1=>.const [0] (.pointer (some ⟨w.1.size,0,none⟩))|2=>.const [1] (.slice a1 xs.length c1)|3=>MkF 2 xs|4=>.const [] (.pointer (some ⟨w.1.size,0,none⟩))|5=>.const [4] (.pointer (some ⟨w.1.size,1,none⟩))|6=>.const [5] (.slice a2 ys.length c2)|7=>MkF 6 ys|8=>Mk2 3 7 xs.length ys.length|9=>Mk4 8 xs.length ys.length|10=>MkV 30 noD|_=>.triv) (fun x=>⟨#[.agg #[.slice a1 xs.length c1,.slice a2 ys.length c2,.slice a3 is.length c3,.slice a4 bs.length c4],.pointer (some ⟨w.1.size,0,none⟩),.pointer (some ⟨w.1.size+1,0,none⟩),x 10,undef,undef,undef,undef,x 0,x 1,x 2,x 3,x 4,x 5,x 6,x 7,x 8,x 9,undef,undef,undef,undef,undef,undef,undef,undef,undef,undef,undef,undef,undef,undef,undef,undef,undef,undef,undef,undef,undef,undef,undef,undef,undef,undef,undef,undef,undef,undef,undef,undef,undef,undef],[]⟩) (fun i=>match i with|0=>undef|1=>undef|2=>undef|3=>undef|4=>undef|5=>undef|6=>undef|7=>undef|8=>undef|9=>undef|10=>undef|_=>undef) rfl kL kL kL rfl ?_ ?_
 ·intro jo hj so x iw W hd hp K hK;simp only[mN,nN,or_false]at hj;rcases hj with rfl|rfl|rfl|rfl|rfl|rfl|rfl|rfl|rfl|rfl|rfl<;>refine wpOp_step (o:=_) rfl fun K' hK'=>?_<;>have HK:=hJ (fun(v:Va) (W':Wd) h1 h2=>hK' _ _ (hK v W' h1 h2))<;>simp only[upd,Nat.reduceEqDiff,if_true,if_false]at HK
  ·exact cQ6
  ·have e0:x 0=.pointer (some ⟨w.1.size,0,none⟩):=hp.post 0 (hd 0 mz0);simp only[e0]at HK ⊢;go_simp;exact HK.o _ _ bR rfl
  ·exact cQ89
  ·have e2:x 2=.slice a1 xs.length c1:=hp.post 2 (hd 2 mz0);have bl:=(HC.o W hp.bel).2.2.1;simp only[e2]at HK ⊢;go_simp;refine(zhg _ xs W (H.out.a.below bl nR) HG.o.x).mono ?_;rintro e w6 ⟨p6,rfl,O6,B6⟩;obtain⟨a6,c6,rfl⟩:=O6.rfl.form;go_simp;exact HK.o _ _ B6 ⟨a6,c6,rfl,O6,fun i hi=>(O6.lt i hi).2⟩
  ·exact cQ6
  ·have e4:x 4=.pointer (some ⟨w.1.size,0,none⟩):=hp.post 4 (hd 4 mz0);simp only[e4]at HK ⊢;go_simp;exact HK.o _ _ bR rfl
  ·have e5:x 5=.pointer (some ⟨w.1.size,1,none⟩):=hp.post 5 (hd 5 mz0);have q0:=(HC.o W hp.bel).1.c1;simp only[e5]at HK ⊢;go_simp;exact HK.o _ _ bR rfl
  ·have e6:x 6=.slice a2 ys.length c2:=hp.post 6 (hd 6 mz0);have bl:=(HC.o W hp.bel).2.2.1;simp only[e6]at HK ⊢;go_simp;refine(zhg _ ys W (H.out.b.below bl nR) HG.o.y).mono ?_;rintro e w6 ⟨p6,rfl,O6,B6⟩;obtain⟨a6,c6,rfl⟩:=O6.rfl.form;go_simp;exact HK.o _ _ B6 ⟨a6,c6,rfl,O6,fun i hi=>(O6.lt i hi).2⟩
  ·have e3:∃a c,x 3=.slice a xs.length c/\ROwns W (iw 3).1 4 (x 3) (fc xs)/\∀i,(x 3).ownBlock=some i->i<(iw 3).2:=hp.post 3 (hd 3 mz0);have e7:∃a c,x 7=.slice a ys.length c/\ROwns W (iw 7).1 4 (x 7) (fc ys)/\∀i,(x 7).ownBlock=some i->i<(iw 7).2:=hp.post 7 (hd 7 mz1);obtain⟨a5,c5,e3,-⟩:=e3;obtain⟨a6,c6,e7,-⟩:=e7;have HE:=hJ (aI e3 e7);simp only[e3,e7]at HK ⊢;clear e3 e7;go_simp;exact HK.o _ _ bR ⟨a5,c5,a6,c6,by rw[zaq _ _ _ _ dC];exact HE.o.1,by rw[zaq _ _ _ _ dC];exact HE.o.2,rfl⟩
  ·have e8:∃a c a' c',x 3=.slice a xs.length c/\x 7=.slice a' ys.length c'/\x 8=.agg #[.slice a xs.length c,.slice a' ys.length c']:=hp.post 8 (hd 8 mz0);obtain⟨a5,c5,a6,c6,-,-,e8⟩:=e8;have HE:=hJ e8;simp only[e8]at HK ⊢;clear e8;go_simp;exact HK.o _ _ bR ⟨a5,c5,a6,c6,by rw[zaq _ _ _ _ dC];exact HE.o,rfl⟩
  clear hK hK' hp hd;go_simp;exact HK.o _ _ ((bF _ W).alloc nR _) ⟨rfl,sI,AtC.new W 30 _⟩
 intro x iw W hp;obtain⟨a5,c5,e3,O3,aF⟩:=hp.post 3 dC;obtain⟨a6,c6,e7,O7,aD⟩:=hp.post 7 dC;obtain⟨cA,cE,bX,cD,f3,f7,e8⟩:=hp.post 8 dC;obtain⟨bO,bL,bN,bM,g8,e9⟩:=hp.post 9 dC;obtain⟨aO,bI,aR⟩:=hp.post 10 dC;rw[e3]at f3;rw[e7]at f7;rw[e8]at g8;simp only[vJ,true_and]at f3 f7;obtain⟨rfl,rfl⟩:=f3;obtain⟨rfl,rfl⟩:=f7;simp only[Value.agg.injEq,Array.mk.injEq,List.cons.injEq,vJ,true_and,and_true]at g8;obtain⟨⟨rfl,rfl⟩,rfl,rfl⟩:=g8;have bE:=hp.apart 3 dC 7 dC dC;have aU:=hp.apart 3 dC 10 dC dC;have aV:=hp.apart 7 dC 10 dC dC;have l3:=hp.lo 3 dC;have l7:=hp.lo 7 dC;have aX:=hp.lo 10 dC;simp[World.drew]at l3 l7 aX;obtain⟨kA,kR,bel,-⟩:=HC.o W hp.bel;have hT:Two W (w.1.size+1+1) (.slice a5 xs.length c5) (.slice a6 ys.length c6) xs ys:=by
  rw[e3]at O3 aF;rw[e7]at O7 aD;exact⟨O3.base_le l3.1,O7.base_le l7.1,fun k h1 h2=>by have:=aF k h1;have:=aD k h2;have:=(O3.lt k h1).1;have:=(O7.lt k h2).1;omega⟩
 have aY:∀k,((Value.slice a5 xs.length c5).ownBlock=some k\/(Value.slice a6 ys.length c6).ownBlock=some k)->k≠(iw 10).1:=fun k hk=>by
  rw[e3]at O3 aF;rw[e7]at O7 aD;rcases hk with hk|hk
  ·have:=aF k hk;have:=(O3.lt k hk).1;omega
  have:=aD k hk;have:=(O7.lt k hk).1;omega
 have D0:=zn7 kA kR aR hT aY bel oM;obtain⟨y0,y1,y2,y3⟩:=AtC.four aR;obtain⟨z0,z1,z2,z3⟩:=aR.f4;generalize (iw 10).1=b at*;have HD:=hJ D0;clear hp aF aD O3 O7 aY kA kR bel bI bE aU aV l3 l7 aX D0 hT aR HC;simp only[e3,e7,e8,e9,aO];clear e3 e7 e8 e9 aO;go_wp2_with fail
 rw[List.filterMap_nil];obtain⟨W1,aZ⟩:∃W1,(((W.setCell ⟨b,0,none⟩ (.slice a5 xs.length c5)).setCell ⟨b,1,none⟩ (.slice a6 ys.length c6)).setCell ⟨b,2,none⟩ (.slice none 0 0)).setCell ⟨b,3,none⟩ (.slice none 0 0)=W1:=⟨_,rfl⟩
 rw[aZ]at HD ⊢;have q2:=HD.o.arg.c2;clear y0 y1 y2 y3 z0 z1 z2 z3 aZ;go_wp2;go_loopw [21] (fun i wr=>∃j:Nat,j<=is.length/\i=.int .i64 j/\Hid (∃iv,Dz w wr #[.slice a1 xs.length c1,.slice a2 ys.length c2,.slice a3 is.length c3,.slice a4 bs.length c4] b (.slice a5 xs.length c5) (.slice a6 ys.length c6) iv (.slice none 0 0) xs ys (is.take j) [])) (fun i _=>is.length-(intOf i).toNat)
 case atStart=>exact⟨0,zL _,rfl,_,HD.o⟩
 obtain⟨j,hj,rfl,HR⟩:=hrel;obtain⟨iv,aB⟩:=HR.o;by_cases hlt:j<is.length
 ·obtain⟨ti,k1,k2,k3⟩:=aB.appI;obtain⟨gi,ci,rfl,-⟩:=k1.form;obtain⟨ai,bQ,ei,-,aN⟩:=H.out.i.ino;obtain⟨g,aC,p,rfl,hg,m1,m2,m3,hp⟩:=aN j hlt;simp only[vJ]at ei;obtain⟨rfl,-,rfl⟩:=ei;have aG:=HG.o.p j hlt;have aH:=tG hlt;obtain⟨X,hX⟩:∃X,is[j]=X:=⟨_,rfl⟩
  obtain⟨y,s,z⟩:=X;rw[hX]at m1 m2 hp aG aH;simp only at m1 m2 hp aG;obtain⟨pa,pc,rfl⟩:=hp.form;have aM:ti.length=j:=by rw[k2,lK];omega
  have n1:=(aB.bel.cell (p:=⟨g,aC+j*3,none⟩) hg).trans m1;have n2:=(aB.bel.cell (p:=⟨g,aC+j*3+1,none⟩) hg).trans m2;have n3:=(aB.bel.cell (p:=⟨g,aC+j*3+2,none⟩) hg).trans m3;have HP:Hid (RInts (wr.n #[.int .i64 y,.int .i64 s,.slice pa z.length pc] 59) (.slice pa z.length pc) z):=(hp.below aB.bel nR).alloc _;have HX:=hJ (aI k1 (aI k3 aM));have aL:=hJ aB;have aW:=hJ aG;have aT:=hJ aH;have j0:(0:Int)<=(j:Int):=oM
  have j1:(j:Int)<(is.length:Int):=oM
  clear k1 k2 k3 aB HR aM m1 m2 m3 hp aG aH aN hX hg q2;go_wp2_with fail
  refine(zjj _ z _ HP.o aW.o).mono ?_;rintro e w6 ⟨u6,rfl,O6,B6⟩;obtain⟨pb,pd,rfl⟩:=O6.rints.form;have K6:AtC w6 wr.1.size 59 #[.int .i64 y,.int .i64 s,.slice pa z.length pc]:=(AtC.new wr 59 _).over B6;have bZ:wr.1.size+1<=w6.1.size:=by have:=B6.size;simpa using this
  have bW:Bw wr ((w6.setCell ⟨wr.1.size,2,none⟩ (.slice pb z.length pd)).n #[.int .i64 y,.int .i64 s,.slice pb z.length pd] 59):=((((bF _ wr).alloc nR _).trans (B6.mono sI)).setCell nR _).alloc sO _;have O7:ROwns ((w6.setCell ⟨wr.1.size,2,none⟩ (.slice pb z.length pd)).n #[.int .i64 y,.int .i64 s,.slice pb z.length pd] 59) (wr.1.size+1) 3 (.slice pb z.length pd) (ic z):=((O6.base_le sI).setCell_other oM _).alloc _;have K7:=AtC.new (w6.setCell ⟨wr.1.size,2,none⟩ (.slice pb z.length pd)) 59 #[.int .i64 y,.int .i64 s,.slice pb z.length pd];have K8:AtC ((w6.setCell ⟨wr.1.size,2,none⟩ (.slice pb z.length pd)).n #[.int .i64 y,.int .i64 s,.slice pb z.length pd] 59) wr.1.size 59 #[.int .i64 y,.int .i64 s,.slice pb z.length pd]:=(K6.set 2 (.slice pb z.length pd)).alloc _;have bV:=K6.c2;obtain⟨bP,bJ,bH⟩:=(K6.set 2 (.slice pb z.length pd)).k3;have f2:=K6.frozen 2;have dB:=aL.o.below (w1:=w6) (((bF _ wr).alloc nR _).trans (B6.mono sI));have cC:=aL.o.box.lt;have cb:(w6.setCell ⟨wr.1.size,2,none⟩ (.slice pb z.length pd)).cell? ⟨b,2,none⟩=some (.slice gi ti.length ci):=(dB.box.other oM _).cell 2;have hT:=HX.o.1.of_heap fun k hk=>bW.block k (HX.o.1.lt k hk);obtain⟨W6,bS⟩:∃W6,w6.setCell ⟨wr.1.size,2,none⟩ (.slice pb z.length pd)=W6:=⟨_,rfl⟩
  rw[bS]at bW O7 K7 K8 hT bP bJ bH cb;have HN:Hid (∀v' w',TOwns w' 59 v' (ti++[(.int .i64 y,.int .i64 s,.slice pb z.length pd)])->(W6.n #[.int .i64 y,.int .i64 s,.slice pb z.length pd] 59).grownBy w' (Value.slice gi ti.length ci).ownBlock->(∀k,v'.ownBlock=some k->(Value.slice gi ti.length ci).ownBlock=some k\/(W6.n #[.int .i64 y,.int .i64 s,.slice pb z.length pd] 59).1.size<=k)->(AtC w' b 30 #[.slice a5 xs.length c5,.slice a6 ys.length c6,.slice gi ti.length ci,.slice none 0 0])/\Dz w (w'.setCell ⟨b,2,none⟩ v') #[.slice a1 xs.length c1,.slice a2 ys.length c2,.slice (some ⟨g,aC,none⟩) is.length c3,.slice a4 bs.length c4] b (.slice a5 xs.length c5) (.slice a6 ys.length c6) v' (.slice none 0 0) xs ys (is.take j++[(y,s,z)]) []):=fun v' w' h1 h2 h3=>HX.o.2.1 _ w' v' _ (y,s,z) bW ⟨rfl,rfl,O7.base_le (zL _)⟩ (fun k hk=>by have:=(O7.lt k hk).1;omega) h1 h2 h3;have aP:Hid (ti.length<=1000000000000):=by have:=HX.o.2.2;show ti.length<=_;omega
  have aS:=hJ K7;have HT:=hJ hT;clear hT O7 O6 bW K6 K7 K8 B6 dB HX aL HP n1 n2 n3;go_wp2_with (at_builtin;refine wS fun K' hK'=>?_;refine zas _ rfl (.tmp 30) (.tmp 32) 27 rfl 59 Tryz.u27 _ 40 Tryz.i59 rfl dC (.slice gi ti.length ci) ti rfl HT.o W6.1.size (.int .i64 y,.int .i64 s,.slice pb z.length pd) rfl ⟨aS.o.cell 0,aS.o.cell 1,aS.o.cell 2⟩ ⟨rfl,rfl,rfl⟩ aP.o ?_;intro v9 w9 T9 G9 V9;refine hK' _ _ ?_;obtain⟨e9,D9⟩:=HN.o v9 w9 T9 G9 V9;obtain⟨g9,c9,rfl,-⟩:=T9.form;rw[show(ti++[((.int .i64 y,.int .i64 s,.slice pb z.length pd):V3)]).length=ti.length+1 from lA]at D9 ⊢;have z2:=e9.frozen 2;have z3:w9.cell? ⟨b,2,none⟩=some (.slice gi ti.length ci):=e9.cell 2;have H9:=hJ D9;clear e9 D9 T9 G9 V9 HN aS HT aP hK')
  go_roundw
  case rel=>exact⟨j+1,oM,gK,_,by rw[←aT.o];exact H9.o⟩
  simp[intOf];omega
 have bG:j=is.length:=oM
 subst bG;rw[List.take_length]at aB;obtain⟨-,-,-,-,a7,c7,-,-,-,-,rfl,-⟩:=aB.dsk.dr.form;have bK:=hJ aB;have b0:=aB.arg.c3;clear aB HR q2;go_wp2_with fail
 go_loopw [39] (fun i wr=>∃j:Nat,j<=bs.length/\i=.int .i64 j/\Hid (∃bv,Dz w wr #[.slice a1 xs.length c1,.slice a2 ys.length c2,.slice a3 is.length c3,.slice a4 bs.length c4] b (.slice a5 xs.length c5) (.slice a6 ys.length c6) (.slice a7 is.length c7) bv xs ys is (bs.take j))) (fun i _=>bs.length-(intOf i).toNat)
 case atStart=>exact⟨0,zL _,rfl,_,bK.o⟩
 obtain⟨j,hj,rfl,HR⟩:=hrel;obtain⟨bv,aB⟩:=HR.o;by_cases hlt:j<bs.length
 ·obtain⟨ai,bQ,ei,-,aN⟩:=H.out.k.blk;obtain⟨g,aC,p,rfl,hg,m1,m2,m3,hp⟩:=aN j hlt;simp only[vJ]at ei;obtain⟨rfl,-,rfl⟩:=ei;have aG:=HG.o.s j hlt;have aH:=tG hlt;obtain⟨X,hX⟩:∃X,bs[j]=X:=⟨_,rfl⟩
  obtain⟨y,z,s⟩:=X;rw[hX]at m1 m3 hp aG aH;simp only at m1 m3 hp;obtain⟨pa,pc,rfl⟩:=hp.form;obtain⟨ti,k1,k2,k3⟩:=(aB.alloc (.cells #[.bool y,.slice pa z.length pc,.string s] 95)).drew.appB;obtain⟨gi,ci,rfl,-⟩:=k1.form;have aM:ti.length=j:=by rw[k2,lK];omega
  have n1:=(aB.bel.cell (p:=⟨g,aC+j*3,none⟩) hg).trans m1;have n2:=(aB.bel.cell (p:=⟨g,aC+j*3+1,none⟩) hg).trans m2;have n3:=(aB.bel.cell (p:=⟨g,aC+j*3+2,none⟩) hg).trans m3;have HX:=hJ (aI k1 (aI k3 aM));have aL:=hJ aB;have HP:Hid (∀W,Bw w W->RSl W (.slice pa z.length pc) z):=fun W b=>hp.below b nR;have aW:=hJ aG;have aT:=hJ aH;have HC:Hid (∀W,Bw (wr.n #[.bool y,.slice pa z.length pc,.string s] 95).drew W->W.cell? ⟨b,3,none⟩=some (.slice gi ti.length ci)/\AtC W wr.1.size 95 #[.bool y,.slice pa z.length pc,.string s]/\Bw w W):=fun W b=>by
   have hw:=(aL.o.alloc _).drew.below b;exact⟨hw.box.cell 3,(AtC.new wr 95 _).drew.over b,hw.bel⟩
  have j0:(0:Int)<=(j:Int):=oM
  have j1:(j:Int)<(bs.length:Int):=oM
  clear k1 k2 k3 aB HR aM m1 m2 m3 hp aG aH aN hX hg b0;go_wp2_with fail
  refine zau kL [0,1,2,3,4] [5,6,7] (fun i=>match i with|0=>.const [] (.pointer (some ⟨b,3,none⟩))|1=>.const [0] (.slice gi ti.length ci)|2=>.const [] (.agg #[.bool y,.slice pa z.length pc,.string s])|3=>MkK 2 y s z|4=>MkK1 3 y s|_=>.triv) (fun xb=>⟨#[.agg #[.slice a1 xs.length c1,.slice a2 ys.length c2,.slice a3 is.length c3,.slice (some ⟨g,aC,none⟩) bs.length c4],.pointer (some ⟨w.1.size,0,none⟩),.pointer (some ⟨w.1.size+1,0,none⟩),.pointer (some ⟨b,0,none⟩),undef,u5,undef,.pointer (some ⟨wr.1.size,0,none⟩),x 0,x 1,x 2,.slice a5 xs.length c5,x 4,x 5,x 6,.slice a6 ys.length c6,.agg #[.slice a5 xs.length c5,.slice a6 ys.length c6],.agg #[.slice a5 xs.length c5,.slice a6 ys.length c6,.slice none 0 0,.slice none 0 0],.pointer (some ⟨w.1.size,2,none⟩),.slice a3 is.length c3,.int .i64 ↑is.length,.int .i64 ↑is.length,.bool false,u23,u24,u25,u26,u27,u28,u29,u30,u31,u32,u33,u34,u35,.pointer (some ⟨w.1.size,3,none⟩),.slice (some ⟨g,aC,none⟩) bs.length c4,.int .i64 ↑bs.length,.int .i64 ↑j,.bool true,.pointer (some ⟨g,aC+j*3,none⟩),.agg #[.bool y,.slice pa z.length pc,.string s],xb 0,xb 1,xb 2,xb 3,xb 4,u48,u49,u50,undef],[]⟩) (fun i=>match i with|0=>u43|1=>u44|2=>u45|3=>u46|4=>u47|_=>undef) rfl kL kL kL rfl ?_ ?_
  ·intro jo hj so xb iw W hd hp K hK;simp only[mN,nN,or_false]at hj;rcases hj with rfl|rfl|rfl|rfl|rfl<;>refine wpOp_step (o:=_) rfl fun K' hK'=>?_<;>have HK:=hJ (fun(v:Va) (W':Wd) h1 h2=>hK' _ _ (hK v W' h1 h2))<;>simp only[upd,Nat.reduceEqDiff,if_true,if_false]at HK
   ·exact cQ6
   ·have e0:xb 0=.pointer (some ⟨b,3,none⟩):=hp.post 0 (hd 0 mz0);have q0:=(HC.o W hp.bel).1;simp only[e0]at HK ⊢;go_simp;exact HK.o _ _ bR rfl
   ·have k0:=(HC.o W hp.bel).2.1;obtain⟨q0,q1,q2⟩:=k0.k3;clear k0;go_simp;exact HK.o _ _ bR rfl
   ·have e2:xb 2=.agg #[.bool y,.slice pa z.length pc,.string s]:=hp.post 2 (hd 2 mz0);have bl:=(HC.o W hp.bel).2.2;simp only[e2]at HK ⊢;go_simp;refine(newK_any y s _ z W (HP.o W bl) aW.o).mono ?_;rintro e w6 ⟨p6,rfl,O6,B6⟩;go_simp;exact HK.o _ _ B6 ⟨p6,rfl,O6,fun i hi=>(O6.lt i hi).2⟩
   have e3:∃u,xb 3=.agg #[.bool y,u,.string s]/\SOwns W (iw 3).1 90 u z/\∀i,u.ownBlock=some i->i<(iw 3).2:=hp.post 3 (hd 3 mz0);obtain⟨p7,e7,O7,-⟩:=e3;obtain⟨pb,pd,rfl⟩:=O7.rsl.form;clear O7;have HE:=hJ e7;simp only[e7]at HK ⊢;clear e7;go_simp;exact HK.o _ _ ((bF _ W).alloc nR _) ⟨rfl,sI,.slice pb z.length pd,by rw[zaq _ _ _ _ dC];exact HE.o,AtC.new W 95 _⟩
  intro xb iw W hp;have e1:xb 1=.slice gi ti.length ci:=hp.post 1 dC;obtain⟨p7,e7,O7,-⟩:=hp.post 3 dC;obtain⟨e8,-,p8,f8,A8⟩:=hp.post 4 dC;rw[e7]at f8;simp only[Value.agg.injEq,Array.mk.injEq,List.cons.injEq,and_true,true_and]at f8;subst f8;have l7:=(hp.lo 3 dC).1;have aK:=hp.bel;have O9:SOwns W (wr.n #[.bool y,.slice pa z.length pc,.string s] 95).drew.heap.size 90 p7 z:=O7.base_le l7;obtain⟨pb,pd,rfl⟩:=O9.rsl.form;have hT:=HX.o.1.of_heap fun k hk=>aK.block k (HX.o.1.lt k hk);have HN:Hid (∀v' w',TOwns w' 95 v' (ti++[(.bool y,.slice pb z.length pd,.string s)])->W.grownBy w' (Value.slice gi ti.length ci).ownBlock->(∀k,v'.ownBlock=some k->(Value.slice gi ti.length ci).ownBlock=some k\/W.1.size<=k)->(AtC w' b 30 #[.slice a5 xs.length c5,.slice a6 ys.length c6,.slice a7 is.length c7,.slice gi ti.length ci])/\Dz w (w'.setCell ⟨b,3,none⟩ v') #[.slice a1 xs.length c1,.slice a2 ys.length c2,.slice a3 is.length c3,.slice (some ⟨g,aC,none⟩) bs.length c4] b (.slice a5 xs.length c5) (.slice a6 ys.length c6) (.slice a7 is.length c7) v' xs ys is (bs.take j++[(y,z,s)])):=fun v' w' h1 h2 h3=>HX.o.2.1 W w' v' _ (y,z,s) aK ⟨rfl,O9.base_le (zL _),rfl⟩ (fun k hk=>(O9.lt k hk).1) h1 h2 h3;have aP:Hid (ti.length<=1000000000000):=by have:=HX.o.2.2;show ti.length<=_;omega
  have aQ:=hJ A8;have HT:=hJ hT;generalize (iw 4).1=g8 at*;clear hT O9 O7 hp l7 aK A8 HX aL;simp only[e1,e7,e8];refine wS fun K' hK'=>?_;refine zas _ rfl (.tmp 44) (.tmp 47) 28 rfl 95 Tryz.u28 _ 48 Tryz.i95 rfl dC (.slice gi ti.length ci) ti rfl HT.o g8 (.bool y,.slice pb z.length pd,.string s) rfl ⟨aQ.o.cell 0,aQ.o.cell 1,aQ.o.cell 2⟩ ⟨rfl,rfl,rfl⟩ aP.o ?_;intro v9 w9 T9 G9 V9;refine hK' _ _ ?_;obtain⟨e9,D9⟩:=HN.o v9 w9 T9 G9 V9;obtain⟨g9,c9,rfl,-⟩:=T9.form;have aO:(ti++[((.bool y,.slice pb z.length pd,.string s):V3)]).length=ti.length+1:=sI
  rw[aO]at D9 ⊢;clear aO;have z3:=e9.c3;have z2:=e9.frozen 3;have H9:=hJ D9;clear e9 D9 T9 G9 V9 HN aQ HT aP hK' K' e1 e7 e8;go_wp2_with fail
  rw[List.filterMap_nil];go_wp2;go_roundw
  case rel=>exact⟨j+1,oM,gK,_,by rw[←aT.o];exact H9.o⟩
  simp[intOf];omega
 have bC:j=bs.length:=oM
 subst bC;rw[List.take_length]at aB;obtain⟨-,-,-,-,-,-,p8,q8,-,-,-,rfl⟩:=aB.dsk.dr.form;have H7:=hJ aB;have b0:=aB.arg.c3;obtain⟨y0,y1,y2,y3⟩:=AtC.four aB.box;obtain⟨r0,r1,r2,r3⟩:=AtC.four aB.res;obtain⟨v0,v1,v2,v3⟩:=aB.res.f4;clear aB HR;go_wp2;refine bY (v:=.agg #[.slice a5 xs.length c5,.slice a6 ys.length c6,.slice a7 is.length c7,.slice p8 bs.length q8]) sR4 rfl ⟨_,_,_,_,rfl,?_,?_⟩
 ·exact cQ41
 exact cQ119
open Go.Shelf
def Tryz.sortL_ren:Go.Shelf.Ren:=⟨fun| 6=>105|15=>131|14=>130|28=>163|29=>164|20=>155|21=>156|22=>157|23=>158|24=>159|25=>160|26=>161|27=>162|46=>186|47=>187|48=>188|49=>189|50=>190|57=>221|n=>n,fun| 22=>144|24=>139|25=>147|3=>3|39=>138|0=>0|53=>213|55=>215|4=>4|46=>206|45=>205|50=>210|5=>5|9=>9|66=>229|70=>233|76=>256|77=>257|n=>n,fun| n=>n⟩
theorem Tryz.sortL:Go.Proofs.SlLaysF.n6 Tryz.prog Tryz.sortL_ren:={
 mixed:=by kernel_rfl
 f6:=⟨Tryz.f105.name,dC,Tryz.func105.trans (congrArg some kL)⟩
 f14:=⟨Tryz.f130.name,dC,Tryz.func130.trans (congrArg some kL)⟩
 f15:=Tryz.func131.trans (congrArg some kL)
 f20:=⟨Tryz.f155.name,dC,Tryz.func155.trans (congrArg some kL)⟩
 f21:=⟨Tryz.f156.name,dC,Tryz.func156.trans (congrArg some kL)⟩
 f22:=⟨Tryz.f157.name,dC,Tryz.func157.trans (congrArg some kL)⟩
 f23:=⟨Tryz.f158.name,dC,Tryz.func158.trans (congrArg some kL)⟩
 f24:=⟨Tryz.f159.name,dC,Tryz.func159.trans (congrArg some kL)⟩
 f25:=⟨Tryz.f160.name,dC,Tryz.func160.trans (congrArg some kL)⟩
 f26:=⟨Tryz.f161.name,dC,Tryz.func161.trans (congrArg some kL)⟩
 f27:=⟨Tryz.f162.name,dC,Tryz.func162.trans (congrArg some kL)⟩
 f28:=Tryz.func163.trans (congrArg some kL)
 f29:=Tryz.func164.trans (congrArg some kL)
 f46:=⟨Tryz.f186.name,dC,Tryz.func186.trans (congrArg some kL)⟩
 f47:=Tryz.func187.trans (congrArg some kL)
 f48:=Tryz.func188.trans (congrArg some kL)
 f49:=⟨Tryz.f189.name,dC,Tryz.func189.trans (congrArg some kL)⟩
 f50:=⟨Tryz.f190.name,dC,Tryz.func190.trans (congrArg some kL)⟩
 f57:=⟨Tryz.f221.name,dC,Tryz.func221.trans (congrArg some kL)⟩
 t0:=Tryz.underlying0
 a0:=Tryz.isAgg0
 z0:=Tryz.sizeOf0
 v0:=Tryz.zeroValue0
 t3:=Tryz.underlying3
 a3:=Tryz.isAgg3
 z3:=Tryz.sizeOf3
 v3:=Tryz.zeroValue3
 t4:=Tryz.underlying4
 a4:=Tryz.isAgg4
 z4:=Tryz.sizeOf4
 v4:=Tryz.zeroValue4
 t5:=Tryz.underlying5
 a5:=Tryz.isAgg5
 z5:=Tryz.sizeOf5
 v5:=Tryz.zeroValue5
 t9:=Tryz.underlying9
 a9:=Tryz.isAgg9
 z9:=Tryz.sizeOf9
 v9:=Tryz.zeroValue9
 t22:=Tryz.underlying144
 a22:=Tryz.isAgg144
 z22:=Tryz.sizeOf144
 v22:=Tryz.zeroValue144
 a24:=Tryz.isAgg139
 z24:=Tryz.sizeOf139
 t25:=Tryz.underlying147
 a25:=Tryz.isAgg147
 z25:=Tryz.sizeOf147
 v25:=Tryz.zeroValue147
 t39:=Tryz.underlying138
 a39:=Tryz.isAgg138
 z39:=Tryz.sizeOf138
 v39:=Tryz.zeroValue138
 t45:=Tryz.underlying205
 a45:=Tryz.isAgg205
 z45:=Tryz.sizeOf205
 v45:=Tryz.zeroValue205
 t46:=Tryz.underlying206
 a46:=Tryz.isAgg206
 z46:=Tryz.sizeOf206
 v46:=Tryz.zeroValue206
 t50:=Tryz.underlying210
 a50:=Tryz.isAgg210
 z50:=Tryz.sizeOf210
 v50:=Tryz.zeroValue210
 t53:=Tryz.underlying213
 a53:=Tryz.isAgg213
 z53:=Tryz.sizeOf213
 v53:=Tryz.zeroValue213
 t55:=Tryz.underlying215
 a55:=Tryz.isAgg215
 z55:=Tryz.sizeOf215
 v55:=Tryz.zeroValue215
 t66:=Tryz.underlying229
 a66:=Tryz.isAgg229
 z66:=Tryz.sizeOf229
 v66:=Tryz.zeroValue229
 t70:=Tryz.underlying233
 a70:=Tryz.isAgg233
 z70:=Tryz.sizeOf233
 v70:=Tryz.zeroValue233
 t76:=Tryz.underlying256
 a76:=Tryz.isAgg256
 z76:=Tryz.sizeOf256
 v76:=Tryz.zeroValue256
 t77:=Tryz.underlying257
 a77:=Tryz.isAgg257
 z77:=Tryz.sizeOf257
 v77:=Tryz.zeroValue257 }
open Go.Lib Go.Sort
theorem zci{α:Type}[Inhabited α](enc:α->Value)(w:Wd)(blk off m:Nat)(dk:Array α)(os:Array Obj)(k:Nat)(h1:k≠blk)(h2:k<w.1.size):(sortWorld enc w blk off m dk os).heap[k]?=w.1[k]?:=by
 unfold sortWorld;have hs:(putRow enc (Sort.ahead w m) blk off dk).heap.size=w.1.size:=by simp[putRow,mapBlock,Sort.ahead]
 rw[heap_grow_old _ _ (by rw[hs];exact h2)];simp only[putRow,mapBlock,Sort.ahead,Array.getElem?_modify];rw[if_neg (fun e=>h1 e.symm)]
theorem zka{α:Type}[Inhabited α](enc:α->Value)(w:Wd)(blk off m:Nat)(dk:Array α)(os:Array Obj)(a:Addr)(h1:a.block≠blk)(h2:a.block<w.1.size):(sortWorld enc w blk off m dk os).cell? a=w.cell? a:=by
 simp only[World.cell?,zci enc w blk off m dk os a.block h1 h2]
theorem zfv{α:Type}[Inhabited α](enc:α->Value)(w:Wd)(blk off m:Nat)(dk:Array α)(os:Array Obj)(B:Nat)(hB:B<=blk)(hb:blk<w.1.size):Below B w (sortWorld enc w blk off m dk os):=by
 refine⟨rfl,rfl,rfl,?_,fun k hk=>zci enc w blk off m dk os k oM oM⟩;have hs:(putRow enc (Sort.ahead w m) blk off dk).heap.size=w.1.size:=by simp[putRow,mapBlock,Sort.ahead]
 unfold sortWorld;rw[size_grow,hs];omega
theorem zkb(x y:Int):(cmpI x y<0)↔x<y:=by
 unfold cmpI
 split
 ·simp;assumption
 split
 ·simp;omega
 simp;omega
theorem zlk(n:Nat)(F:List (Fin n))(hF:F.Nodup)(hall:∀j,j∈F)(le:Fin n->Fin n->Bool)(hle:∀i j,le i j=decide (i<=j)):F.mergeSort le=List.finRange n:=by
 have hp:(F.mergeSort le).Perm (List.finRange n):=(List.mergeSort_perm F le).trans ((List.perm_ext_iff_of_nodup hF (List.nodup_finRange n)).2 fun a=>⟨fun _=>List.mem_finRange a,fun _=>hall a⟩);refine List.Perm.eq_of_pairwise (le:=fun i j=>le i j=true) (fun a b _ _ h1 h2=>?_) (List.pairwise_mergeSort (fun a b c h1 h2=>?_) (fun a b=>?_) F) ?_ hp
 ·rw[hle]at h1 h2;have h1:=of_decide_eq_true h1;have h2:=of_decide_eq_true h2;exact Fin.le_antisymm h1 h2
 ·rw[hle]at h1 h2 ⊢;have h1:=of_decide_eq_true h1;have h2:=of_decide_eq_true h2;exact dT (Fin.le_trans h1 h2)
 ·rw[hle,hle];rcases Fin.le_total a b with h|h<;>simp[h]
 exact(List.pairwise_le_finRange n).imp fun h=>by rw[hle];exact dT h
theorem zn6(E:List Ln)(F:List (Fin E.length))(blk cap:Nat)(w:Wd)(hc:∀j:Fin E.length,w.cell? ⟨E[j].b,11,none⟩=some (nI (E[j].pl:Int)))(hlt:∀j:Fin E.length,E[j].b<w.1.size)(hne:∀j:Fin E.length,E[j].b≠blk)(hpl:∀i j:Fin E.length,i<j->E[i].pl<E[j].pl)
  (hF:F.Nodup) (hall:∀j,j∈F) (h0:0<E.length) (hl:E.length<=1048576) (hblk:blk<w.1.size)
  (hH:∀(k:Nat)(h:k<F.length),w.cell? ⟨blk,k,none⟩=some (.pointer (aA (E[F[k]].b) 0))/\w.frozen? ⟨blk,k,none⟩=false) :
  Calls Tryz.prog 105 #[.slice (aA blk 0) F.length cap,.func (.func 106) #[] #[]] w fun e w'=>e=.returned (.tuple #[])/\Below blk w w'/\(∀k,k≠blk->k<w.1.size->w'.1[k]?=w.1[k]?)/\∀(k:Nat)(h:k<E.length),w'.cell? ⟨blk,k,none⟩=some (.pointer (aA (E[k].b) 0)):=by
 haveI:Inhabited (Fin E.length):=⟨⟨0,h0⟩⟩
 have aF:F.length=E.length:=by
  have:=((List.perm_ext_iff_of_nodup hF (List.nodup_finRange E.length)).2 fun a=>⟨fun _=>List.mem_finRange a,fun _=>hall a⟩).length_eq;simpa using this
 have aB:∀i j:Fin E.length,ltOf (fun i j:Fin E.length=>cmpI (E[i].pl:Int) (E[j].pl:Int)) i j=decide (i<j):=fun i j=>by
  unfold ltOf;by_cases h:i<j
  ·have:=hpl i j h;rw[dT ((zkb _ _).2 oM),dT h]
  rw[dF h,dF];rw[zkb];by_cases e:i=j
  ·subst e;omega
  have:=hpl j i oM;omega
 have eg:∀args w,(callFunc 106 args).run Tryz.prog w=.ok (.enter 106 args) w:=enters_of Tryz.func106 kL rfl;have aC:=Any.slices_SortFunc_total Tryz.sortL (fun j:Fin E.length=>Value.pointer (aA (E[j].b) 0)) (fun _=>rfl) (fun i j:Fin E.length=>cmpI (E[i].pl:Int) (E[j].pl:Int))
  ⟨fun x=>by rw[aB];simp,fun x y z h1 h2=>by rw[aB]at*;simp at*;omega,fun x y z h1 h2=>by rw[aB]at*;simp at*;omega⟩ 106 #[] blk 0 cap F.toArray w eg
  (CmpReads.lays fun m os dk _ x y=>zjb _ _ _ _ _ (by rw[zka _ _ _ _ _ _ _ _ (hne x) (hlt x)];exact hc x) (by rw[zka _ _ _ _ _ _ _ _ (hne y) (hlt y)];exact hc y))
  (fun k hk=>by
   have aD:k<F.length:=by simpa using hk
   have:=hH k aD;rw[zA_];refine⟨this.1.trans ?_,this.2⟩;rw[getElem!_pos F.toArray k hk];rfl) hblk sO (fun x y h1 h2=>by rw[aB]at*;simp at*;omega)
 change Calls Tryz.prog 105 _ _ _ at aC
 rw[List.size_toArray]at aC;refine aC.mono ?_;rintro e w' ⟨rfl,n,os,rfl⟩;rw[show F.toArray.toList.mergeSort (fun x y=>!(ltOf (fun i j:Fin E.length=>cmpI (E[i].pl:Int) (E[j].pl:Int)) y x))=List.finRange E.length from zlk _ _ hF hall _ fun i j=>by rw[aB];by_cases h:i<=j<;>simp[h]<;>omega];refine⟨rfl,zfv _ _ _ _ _ _ _ _ nR hblk,fun k h1 h2=>zci _ _ _ _ _ _ _ k h1 h2,fun k hk=>?_⟩;have h1:=(holds_sortWorld (fun j:Fin E.length=>Value.pointer (aA (E[j].b) 0)) w blk 0 n F.toArray (List.finRange E.length).toArray os hblk (fun k hk=>by
   have aD:k<F.length:=by simpa using hk
   have:=hH k aD;rw[zA_];refine⟨this.1.trans ?_,this.2⟩;rw[getElem!_pos F.toArray k hk];rfl) (by simp[aF]) k uH).1
 rw[zA_]at h1;rw[h1,getElem!_pos _ k uH];simp
end Go.Proofs.YtgnplpmgkegcnaaGreat
