import Derived.Test.YtgnplpmgkegcnaaGreatRows
import Derived.WalkKit
import Derived.ProofKit
import Derived.OpenShut
import Derived.ShutString
import Derived.ChangeOld
import Derived.Below
import Derived.Test.YtgnplpmgkegcnaaGreatV06
/- The law laws.FnNamesOf returns true at every code, and leaves all that was in memory as it was; no condition. -/
set_option maxRecDepth 100000
namespace Go.Proofs.YtgnplpmgkegcnaaGreat.fnNamesOf
open Go.ChangeShapes Go.WideShapes Go.ChangeAt Go.RowKit Kit
open Go.ChangeMaps (open_string shut_string)
set_option linter.unusedVariables false
theorem own:ownKnob Tryz.prog.godebug=none:=by kernel_rfl
theorem laidOut:laidOutB Tryz.prog=true:=by kernel_rfl
def IsRow(w:World)(a:Option Addr)(len cap:Nat)(zs:List Int):Prop :=
 (a=none/\len=0/\cap=0/\zs=[]) \/
 ∃x,a=some x/\len<=cap/\cap<=maxLen/\zs.length=cap/\(∀i,i<zs.length->w.cell? (x.add i)=some (.int .u8 (zs.getD i 0)))/\∀n∈zs,(Lit.int .u8 n).wf=true
theorem zi0{w:World}{a:Option Addr}{len cap:Nat}{zs:List Int}(h:IsRow w a len cap zs):zbe w a len/\len<=maxLen:=by
 constructor
 ·intro j hj;rcases h with⟨_,h0,_,_⟩| ⟨x,rfl,h1,_,h3,h4,h5⟩
  ·omega
  ·have hc:=h4 j oM;obtain⟨b,off,spot⟩:=x;have hspot:spot=none:=by simpa[Addr.add]using World.cell?_spot (h4 0 oM)
   subst hspot;have hm:zs.getD j 0∈zs:=by
    rw[List.getD_eq_getElem?_getD,List.getElem?_eq_getElem oM,Option.getD_some];exact List.getElem_mem _
   have hbd:=bounds_u8 (h5 _ hm);have ha:(⟨b,off,none⟩:Addr).add j=⟨b,off+j,none⟩:=by cases j<;>simp[Addr.add]
   have hc':w.cell? ⟨b,off+j,none⟩=some (.int .u8 (zs.getD j 0)):=by rw[←ha];exact hc
   exact⟨b,off,zs.getD j 0,rfl,block_lt_of_cell hc',hc',hbd.1,by have:=hbd.2;omega⟩
 ·rcases h with⟨_,h0,_,_⟩| ⟨x,rfl,h1,h2,_⟩
  ·omega
  ·omega
theorem lifted(os:Os)(started:os.Started)(H:Type)(enc:TypeId×Value->H):
  ReturnsInHanded {} Tryz.checked os 5 .any (Rows.fnNamesOfSpec.pre6 enc Tryz.prog Tryz.f5 Rows.fnNamesOfRow.domain false) (Rows.fnNamesOfSpec.post enc Tryz.prog Tryz.f5 false true false false):=by
 refine returnsInHanded_of_change (C:=Tryz.checked) own started kL Tryz.func5
  (ChangeSpec.witness6 (enc:=enc) (C:=Tryz.checked) false ⟨#[],#[.slice none 0 0],[]⟩ 8 kL kL kL kL) ?_
 intro W base args ds gs before hval0 hW hcnd _;have hval:∀(j:Nat) t v,Tryz.f5.params[j]?=some t->args[j]?=some v->Value.okWide Tryz.prog W .any base t v:=hval0;have hW':=hW;obtain⟨p,q,hA0,hV,rfl,hfz,hnd⟩:=hW;have hA:DataW.TrodAll enc Tryz.prog W 0 (fun _=>true) true Tryz.f5.params.toList args.toList ds p:=hA0;rw[Tryz.params5]at hA hval;obtain⟨v0,vs0,d0,ds0,p0,q0,hargs,rfl,rfl,h0,r0⟩:=trodAll_cons hA;obtain⟨rfl,rfl,rfl⟩:=trodAll_nil r0;obtain rfl:args=#[v0]:=by cases args;simp_all
 obtain⟨rfl,rfl⟩:=trodVars_none hV;obtain⟨a0,len0,cap0,rfl⟩:=okWide_slice Tryz.underlying22 (hval 0 22 v0 rfl rfl);have k0:=h0;have lt0:∀x∈p0,x.block<W.1.size:=by obtain⟨m,hm⟩:=k0;exact DataW.trod_lt m _ _ _ hm
 obtain⟨z0,w0⟩:∃zs,IsRow W a0 len0 cap0 zs:=by
  obtain⟨fuel,hf⟩:=h0;rcases open_ints Tryz.underlying22 Tryz.underlying5 kL hf with⟨hcs,_⟩| ⟨x,l,c,zs,hcs,_,hl,hm,hz,_,hcell,hwz⟩
  ·simp[Value.cells]at hcs;obtain⟨rfl,rfl,rfl⟩:=hcs;exact⟨[],.inl ⟨rfl,rfl,rfl,rfl⟩⟩
  ·simp[Value.cells]at hcs;obtain⟨rfl,rfl,rfl⟩:=hcs;exact⟨zs,.inr ⟨_,rfl,hl,hm,by simpa using hz,hcell,hwz⟩⟩
 clear hA0 hval0;refine(walk a0 len0 cap0 W (zi0 w0).1 (zi0 w0).2).mono fun e W' ⟨he,bel⟩=>?_;subst he;exact⟨_,rfl,_,_,_,[],_,[],hW',trodAll_mk1 (shut_bool Tryz.underlying4 _),(trodAll_cons_mk (Below.trod laidOut kL (of_decide_eq_true kL) k0 bel lt0) trodAll_mk0),rfl,bel.frame _,fun h=>by cases h⟩
theorem over:Rows.fnNamesOfRow.holds Tryz.pinned (OpenSpec.ofChange Rows.fnNamesOfSpec) :=
 OpenClaim.holds_of_wide 5 Tryz.f5 rfl rfl rfl rfl rfl rfl rfl ⟨rfl,rfl,rfl,rfl,rfl⟩ rfl rfl rfl rfl rfl kL Tryz.func5 kL
  (of_decide_eq_true kL) (by unfold Func.isWrapper;first| (rw[if_pos (by decide +kernel)];kernel_rfl)| (rw[if_neg (by decide +kernel)];exact⟨rfl,rfl⟩))
  (fun os started H enc _=>lifted os started H enc)
theorem proved:Rows.FnNamesOfSaid:=over
end Go.Proofs.YtgnplpmgkegcnaaGreat.fnNamesOf
namespace Go.Proofs.YtgnplpmgkegcnaaGreat
theorem fnNamesOf_holds:Rows.FnNamesOfSaid:=fnNamesOf.proved
#print axioms fnNamesOf_holds
end Go.Proofs.YtgnplpmgkegcnaaGreat

