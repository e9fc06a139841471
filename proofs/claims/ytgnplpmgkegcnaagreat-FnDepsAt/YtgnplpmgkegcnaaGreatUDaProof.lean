import Derived.Test.YtgnplpmgkegcnaaGreatRows
import Derived.WalkKit
import Derived.ProofKit
import Derived.OpenShut
import Derived.ShutString
import Derived.ChangeOld
import Derived.Below
import Derived.Test.YtgnplpmgkegcnaaGreatW23
/- The law laws.FnDepsAt returns true at every code, and leaves all that was in memory as it was; no condition. -/
set_option maxRecDepth 100000
namespace Go.Proofs.YtgnplpmgkegcnaaGreat.fnDepsAt
open Go.ChangeShapes Go.WideShapes Go.ChangeAt Go.RowKit Kit
open Go.ChangeMaps (open_string shut_string)
set_option linter.unusedVariables false
theorem own:ownKnob Tryz.prog.godebug=none:=by kernel_rfl
theorem laidOut:laidOutB Tryz.prog=true:=by kernel_rfl
def IsRow(w:Wd)(a:OA)(len cap:Nat)(zs:List Int):Prop :=
 (a=none/\len=0/\cap=0/\zs=[]) \/
 ∃x,a=some x/\len<=cap/\cap<=maxLen/\zs.length=cap/\(∀i,i<zs.length->w.cell? (x.add i)=some (.int .u8 (zs.getD i 0)))/\∀n∈zs,(Lit.int .u8 n).wf=true
theorem zio{w:Wd}{a:OA}{len cap:Nat}{zs:List Int}(h:IsRow w a len cap zs):za0 w a len/\len<=maxLen:=by
 constructor
 ·intro j hj;rcases h with⟨_,h0,_,_⟩| ⟨x,rfl,h1,_,h3,h4,h5⟩
  ·omega
  have hc:=h4 j oM;obtain⟨b,aC,aD⟩:=x;have aB:aD=none:=by simpa[Addr.add]using World.cell?_spot (h4 0 oM)
  subst aB;have hm:zs.getD j 0∈zs:=by
   rw[gD_,gE oM,Option.getD_some];exact gM_ _
  have aG:=bounds_u8 (h5 _ hm);have ha:(⟨b,aC,none⟩:Addr).add j=⟨b,aC+j,none⟩:=by cases j<;>simp[Addr.add]
  have aF:w.cell? ⟨b,aC+j,none⟩=some (.int .u8 (zs.getD j 0)):=by rw[←ha];exact hc
  exact⟨b,aC,zs.getD j 0,rfl,block_lt_of_cell aF,aF,aG.1,by have:=aG.2;omega⟩
 rcases h with⟨_,h0,_,_⟩| ⟨x,rfl,h1,h2,_⟩
 ·omega
 omega
theorem lifted(os:Os)(started:os.Started)(H:Type)(enc:TypeId×Va->H):
  ReturnsInHanded {} Tryz.checked os 3 .any (Rows.fnDepsAtSpec.pre6 enc Tryz.prog Tryz.f3 Rows.fnDepsAtRow.domain false) (Rows.fnDepsAtSpec.post enc Tryz.prog Tryz.f3 false true false false):=by
 refine returnsInHanded_of_change (C:=Tryz.checked) own started kL Tryz.func3
  (ChangeSpec.witness6 (enc:=enc) (C:=Tryz.checked) false ⟨#[],#[.slice none 0 0],[]⟩ 8 kL kL kL kL) ?_
 intro W base args ds gs aK aB hW aP _;have aG:∀(j:Nat) t v,Tryz.f3.params[j]?=some t->args[j]?=some v->Value.okWide Tryz.prog W .any base t v:=aB;have aN:=hW;obtain⟨p,q,aL,hV,rfl,aT,aS⟩:=hW;have hA:DataW.TrodAll enc Tryz.prog W 0 (fun _=>true) true Tryz.f3.params.toList args.toList ds p:=aL;rw[Tryz.params3]at hA aG;obtain⟨v0,aU,d0,aV,p0,q0,aM,rfl,rfl,h0,r0⟩:=trodAll_cons hA;obtain⟨rfl,rfl,rfl⟩:=trodAll_nil r0;obtain rfl:args=#[v0]:=by cases args;simp_all
 obtain⟨rfl,rfl⟩:=trodVars_none hV;obtain⟨a0,aH,aD,rfl⟩:=okWide_slice Tryz.underlying22 (aG 0 22 v0 rfl rfl);have k0:=h0;have aQ:∀x∈p0,x.block<W.1.size:=by obtain⟨m,hm⟩:=k0;exact DataW.trod_lt m _ _ _ hm
 obtain⟨z0,w0⟩:∃zs,IsRow W a0 aH aD zs:=by
  obtain⟨aO,hf⟩:=h0;rcases open_ints Tryz.underlying22 Tryz.underlying5 kL hf with⟨aC,_⟩| ⟨x,l,c,zs,aC,_,hl,hm,hz,_,aF,aR⟩
  ·simp[Value.cells]at aC;obtain⟨rfl,rfl,rfl⟩:=aC;exact⟨[],.inl ⟨rfl,rfl,rfl,rfl⟩⟩
  simp[Value.cells]at aC;obtain⟨rfl,rfl,rfl⟩:=aC;exact⟨zs,.inr ⟨_,rfl,hl,hm,by simpa using hz,aF,aR⟩⟩
 clear aL aB;refine(walk a0 aH aD W (zio w0).1 (zio w0).2).mono fun e W' ⟨he,bel⟩=>?_;subst he;exact⟨_,rfl,_,_,_,[],_,[],aN,trodAll_mk1 (shut_bool Tryz.underlying4 _),(trodAll_cons_mk (Below.trod laidOut kL (of_decide_eq_true kL) k0 bel aQ) trodAll_mk0),rfl,bel.frame _,fun h=>by cases h⟩
theorem over:Rows.fnDepsAtRow.holds Tryz.pinned (OpenSpec.ofChange Rows.fnDepsAtSpec) :=
 OpenClaim.holds_of_wide 3 Tryz.f3 rfl rfl rfl rfl rfl rfl rfl ⟨rfl,rfl,rfl,rfl,rfl⟩ rfl rfl rfl rfl rfl kL Tryz.func3 kL
  (of_decide_eq_true kL) (by unfold Func.isWrapper;first| (rw[if_pos (by decide +kernel)];kernel_rfl)| (rw[if_neg (by decide +kernel)];exact⟨rfl,rfl⟩))
  (fun os aB H enc _=>lifted os aB H enc)
theorem proved:Rows.FnDepsAtSaid:=over
end Go.Proofs.YtgnplpmgkegcnaaGreat.fnDepsAt
namespace Go.Proofs.YtgnplpmgkegcnaaGreat
theorem fnDepsAt_holds:Rows.FnDepsAtSaid:=fnDepsAt.proved
#print axioms fnDepsAt_holds
end Go.Proofs.YtgnplpmgkegcnaaGreat

