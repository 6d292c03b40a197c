import Derived.Test.YtkpnmpjnpcjohaaGreatWords
import Derived.Lib.MinMax
import Derived.Test.YtkpnmpjnpcjohaaGreatPlanMaths
import Derived.Test.YtkpnmpjnpcjohaaGreatGeoSmalls
namespace Go.Proofs.YtkpnmpjnpcjohaaGreat
open ChangeShapes WideShapes ChangeAt RowKit Mem FleetMath
namespace Span
open Rec
def a_y(w:World)(v:Value)(e:Ending)(w':World):Prop:=e=.returned v∧Below w.heap.size w w'
def optV:Option Int→Value
 |none=>.tuple #[.int .i64 0,.bool false]
 |some t=>.tuple #[.int .i64 t,.bool true]
theorem b_Z{a b:Bool}{w w':World}(h:a=b)(hb:Below w.heap.size w w'):a_y w (.bool b) (.returned (.bool a)) w':=⟨by rw[h],hb⟩
theorem f_0{o o':Option Int}{w w':World}{v:Value}(h:o=o')(hv:v=optV o)(hb:Below w.heap.size w w'):a_y w (optV o') (.returned v) w':=⟨by rw[← h,hv],hb⟩
theorem o_X{w w1:World}{t:TypeId}{a b:Value}(hb:Below (w.heap.size+1) (w.alloc (.cells #[a,b] t)) w1):w1.cell? ⟨w.heap.size,0,none⟩=some a∧w1.cell? ⟨w.heap.size,1,none⟩=some b:=by
 have h:Blk (w.alloc (.cells #[a,b] t)) w.heap.size t [a,b]:=Blk.new w t [a,b];have h1:=h.below hb (by omega);exact⟨h1.cell rfl,h1.cell rfl⟩
theorem m_R(x:Win)(w:World):Calls Tryz.prog 87 #[winV x] w (a_y w (.bool (right x))):=by
 obtain⟨a,b⟩:=x;go_enter Tryz.func87,Tryz.ntmps87;go_wp2
 all_goals
  go_ret;refine b_Z ?_ ((Below.refl _ _).alloc (Nat.le_refl _) _)
  first
   |(simp_all[right];done)
   |(simp_all[right];omega)
theorem d_M(x:Win)(r:Bool)(w:World)(h:right x=r):Calls Tryz.prog 87 #[winV x] w (a_y w (.bool r)):=by
 rw[← h];exact m_R x w
theorem m_S(x:Win)(t:Int)(w:World):Calls Tryz.prog 249 #[winV x,.int .i64 t] w (a_y w (optV (a_3 x t))):=by
 obtain⟨a,b⟩:=x;obtain⟨r,hr⟩:∃r,right ⟨a,b⟩=r:=⟨_,rfl⟩;have HR:=Lib.hid hr;clear hr;go_enter Tryz.func249,Tryz.ntmps249;go_wp2_with fail
 refine(d_M ⟨a,b⟩ r _ HR.out).mono ?_;rintro e w1 ⟨rfl,hb⟩;rw[World.size_alloc]at hb;obtain⟨c0,c1⟩:=o_X hb;have HB:Hid (Below w.heap.size w w1):=((Below.refl _ _).alloc (Nat.le_refl _) _).trans (hb.mono (by omega));clear hb;cases r
 ·have HN:Hid (a_3 ⟨a,b⟩ t=none):=by unfold a_3;exact if_pos (.inl HR.out)
  go_wp2
  go_ret2
  exact f_0 HN.out.symm rfl HB.out
 ·by_cases h1:b<t
  ·have HN:Hid (a_3 ⟨a,b⟩ t=none):=by unfold a_3;exact if_pos (.inr h1)
   go_wp2
   go_ret2
   exact f_0 HN.out.symm rfl HB.out
  ·have HN:Hid (a_3 ⟨a,b⟩ t=some (max a t)):=beginT_some.2 ⟨HR.out,by simpa using h1,by simp only;omega⟩
   go_wp2
   go_ret2
   exact f_0 HN.out.symm rfl HB.out
end Span
namespace Rec
open PlanMath
structure RM where
 rt:Rte
 a:Option Addr
 n:Nat
 c:Nat
abbrev rmL(r:RM):List Value:=[.int .i64 r.rt.drv,.int .i64 r.rt.served,.slice r.a r.n r.c]
def rmsV(l:List RM):List Value:=l.flatMap rmL
theorem e_o(l:List RM):(rmsV l).length=l.length*3:=by
 induction l with
 |nil=>rfl
 |cons x r ih=>simp only[rmsV,List.flatMap_cons,List.length_append,List.length_cons,List.length_nil]at ih ⊢;omega
theorem b_0(l m:List RM):rmsV (l++m)=rmsV l++rmsV m:=by simp[rmsV]
theorem l_J(l:List RM):∀v∈rmsV l,v.oneCell'=true:=by
 intro v hv;simp only[rmsV,List.mem_flatMap,List.mem_cons,List.not_mem_nil,or_false]at hv;obtain⟨x,_,hv⟩:=hv;rcases hv with rfl|rfl|rfl<;>rfl
theorem o_Y{l:List RM}{i:Nat}{x:RM}(h:l[i]?=some x):(rmsV l)[i*3+0]?=some (.int .i64 x.rt.drv)∧(rmsV l)[i*3+1]?=some (.int .i64 x.rt.served)∧(rmsV l)[i*3+2]?=some (.slice x.a x.n x.c):=by
 induction l generalizing i with
 |nil=>cases h
 |cons y r ih=>
  cases i with
  |zero=>simp at h;subst h;exact⟨rfl,rfl,rfl⟩
  |succ i=>
   have:=ih (i:=i) (by simpa using h);rw[show(i+1)*3+0=(i*3+0)+3 by omega,show(i+1)*3+1=(i*3+1)+3 by omega,show(i+1)*3+2=(i*3+2)+3 by omega];exact this
structure Plns(w:World)(B:Nat)(A:Option Addr)(n:Nat)(l:List RM):Prop where
 rows:Recs w B A n 3 (rmsV l)
 each:∀r∈l,Stps w B r.a r.n r.rt.stops∧r.n≤r.c∧r.n*16≤140737488351232
section
variable {w w' : World} {B B' n i : Nat} {A : Option Addr} {l : List RM}
theorem Plns.keep(h:Plns w B A n l)(hb:Below B w w'):Plns w' B A n l:=⟨Recs.keep h.rows hb,fun r hr=>⟨Recs.keep (h.each r hr).1 hb,(h.each r hr).2⟩⟩
theorem Plns.more(h:Plns w B A n l)(hB:B≤B'):Plns w B' A n l:=⟨Recs.more h.rows hB,fun r hr=>⟨Recs.more (h.each r hr).1 hB,(h.each r hr).2⟩⟩
theorem Plns.length(h:Plns w B A n l):l.length=n:=by have:=h.rows.1;rw[e_o]at this;omega
theorem Plns.at_(h:Plns w B A n l)(hi:i<n):∃b off x,A=some ⟨b,off,none⟩∧b<B∧l[i]?=some x∧l.drop i=x::l.drop (i+1)∧w.cell? ⟨b,off+i*3,none⟩=some (.int .i64 x.rt.drv)∧w.cell? ⟨b,off+i*3+1,none⟩=some (.int .i64 x.rt.served)∧w.cell? ⟨b,off+i*3+2,none⟩=some (.slice x.a x.n x.c)∧Stps w B x.a x.n x.rt.stops∧x.n≤x.c:=by
 obtain⟨b,off,e,hb,hc⟩:=Recs.at_ h.rows hi;have hlt:i<l.length:=by rw[h.length];exact hi
 have hx:=List.getElem?_eq_getElem hlt;obtain⟨h0,h1,h2⟩:=o_Y hx;obtain⟨e1,e2,_⟩:=h.each _ (List.getElem_mem hlt);exact⟨b,off,_,e,hb,hx,List.drop_eq_getElem_cons hlt,hc 0 _ h0,hc 1 _ h1,hc 2 _ h2,e1,e2⟩
end
end Rec
namespace Deal
open GeoMath Rec Geo Span
def MapP(w:World)(t:TypeId)(base:Nat)(pv:Value)(m:Option Mp):Prop:=
 (pv=.pointer none∧m=none)∨∃b n l,pv=.pointer (some ⟨b,0,none⟩)∧m=some ⟨n,l⟩∧MapAt w t base b n l∧1≤n∧n≤12∧IsMap n l
theorem MapP.keep{w w':World}{t:TypeId}{base:Nat}{pv:Value}{m:Option Mp}(h:MapP w t base pv m)(hb:Below w.heap.size w w'):MapP w' t base pv m:=by
 rcases h with h|⟨b,n,l,h1,h2,h3,h4⟩
 ·exact .inl h
 ·exact .inr ⟨b,n,l,h1,h2,h3.keep hb (Nat.le_refl _),h4⟩
theorem MapP.lower{w:World}{t:TypeId}{base base':Nat}{pv:Value}{m:Option Mp}(h:MapP w t base pv m)(hb:base'≤base):MapP w t base' pv m:=by
 rcases h with h|⟨b,n,l,h1,h2,h3,h4⟩
 ·exact .inl h
 ·exact .inr ⟨b,n,l,h1,h2,h3.lower hb,h4⟩
def OBox(u:World)(g:Nat)(o:FleetMath.Ord):Prop:=Blk u g 31 [.int .i64 o.id,.int .i64 o.size,.int .i64 o.pick.place,.int .i64 o.pick.win.fr,.int .i64 o.pick.win.to,.int .i64 o.pick.serv,.int .i64 o.drop.place,.int .i64 o.drop.win.fr,.int .i64 o.drop.win.to,.int .i64 o.drop.serv]
theorem OBox.below{u u':World}{g:Nat}{o:FleetMath.Ord}(h:OBox u g o)(hb:Below u.heap.size u u'):OBox u' g o:=Blk.below h hb (Blk.lt h)
theorem OBox.cells{u:World}{g:Nat}{o:FleetMath.Ord}(h:OBox u g o):u.cell? ⟨g,0,none⟩=some (.int .i64 o.id)∧u.cell? ⟨g,1,none⟩=some (.int .i64 o.size)∧u.cell? ⟨g,2,none⟩=some (.int .i64 o.pick.place)∧u.cell? ⟨g,3,none⟩=some (.int .i64 o.pick.win.fr)∧u.cell? ⟨g,4,none⟩=some (.int .i64 o.pick.win.to)∧u.cell? ⟨g,5,none⟩=some (.int .i64 o.pick.serv)∧u.cell? ⟨g,6,none⟩=some (.int .i64 o.drop.place)∧u.cell? ⟨g,7,none⟩=some (.int .i64 o.drop.win.fr)∧u.cell? ⟨g,8,none⟩=some (.int .i64 o.drop.win.to)∧u.cell? ⟨g,9,none⟩=some (.int .i64 o.drop.serv):=
 ⟨Blk.cell h rfl,Blk.cell h rfl,Blk.cell h rfl,Blk.cell h rfl,Blk.cell h rfl,Blk.cell h rfl,Blk.cell h rfl,Blk.cell h rfl,Blk.cell h rfl,Blk.cell h rfl⟩
def DBox(u:World)(g:Nat)(d:Drv):Prop:=Blk u g 33 [.int .i64 d.id,.int .i64 d.room,.int .i64 d.home,.int .i64 d.win.fr,.int .i64 d.win.to,.bool d.retired]
theorem DBox.below{u u':World}{g:Nat}{d:Drv}(h:DBox u g d)(hb:Below u.heap.size u u'):DBox u' g d:=Blk.below h hb (Blk.lt h)
theorem DBox.cells{u:World}{g:Nat}{d:Drv}(h:DBox u g d):u.cell? ⟨g,0,none⟩=some (.int .i64 d.id)∧u.cell? ⟨g,1,none⟩=some (.int .i64 d.room)∧u.cell? ⟨g,2,none⟩=some (.int .i64 d.home)∧u.cell? ⟨g,3,none⟩=some (.int .i64 d.win.fr)∧u.cell? ⟨g,4,none⟩=some (.int .i64 d.win.to)∧u.cell? ⟨g,5,none⟩=some (.bool d.retired):=
 ⟨Blk.cell h rfl,Blk.cell h rfl,Blk.cell h rfl,Blk.cell h rfl,Blk.cell h rfl,Blk.cell h rfl⟩
abbrev h_7(s:Site):Value:=.agg #[.int .i64 s.place,.int .i64 s.win.fr,.int .i64 s.win.to,.int .i64 s.serv]
theorem timeV_time{n:Nat}{l:List Int}{a b:Int}:k_m n l a b=time ⟨n,l⟩ a b∧(b_k n a && b_k n b)=(a_P ⟨n,l⟩ a && a_P ⟨n,l⟩ b):=by
 have h:∀x,b_k n x=a_P ⟨n,l⟩ x:=fun x=>rfl;refine⟨?_,by rw[h,h]⟩;unfold k_m time;rw[h,h];by_cases h1:a_P ⟨n,l⟩ a=true<;>by_cases h2:a_P ⟨n,l⟩ b=true<;>simp[h1,h2]
theorem b_1{n:Nat}{l:List Int}(h:IsMap n l)(a b:Int):0≤time ⟨n,l⟩ a b∧time ⟨n,l⟩ a b≤1000000:=by
 unfold time;split
 ·rename_i hp
  simp only[a_P,decide_eq_true_eq]at hp;exact⟨h.T_lo (by omega) (by omega),h.T_hi (by omega) (by omega)⟩
 ·omega
def SBox(u:World)(g:Nat)(s:Site):Prop:=Blk u g 29 [.int .i64 s.place,.int .i64 s.win.fr,.int .i64 s.win.to,.int .i64 s.serv]
theorem SBox.below{u u':World}{g:Nat}{s:Site}(h:SBox u g s)(hb:Below u.heap.size u u'):SBox u' g s:=Blk.below h hb (Blk.lt h)
theorem SBox.cells{u:World}{g:Nat}{s:Site}(h:SBox u g s):u.cell? ⟨g,0,none⟩=some (.int .i64 s.place)∧u.cell? ⟨g,1,none⟩=some (.int .i64 s.win.fr)∧u.cell? ⟨g,2,none⟩=some (.int .i64 s.win.to)∧u.cell? ⟨g,3,none⟩=some (.int .i64 s.serv):=
 ⟨Blk.cell h rfl,Blk.cell h rfl,Blk.cell h rfl,Blk.cell h rfl⟩
def KnownTo(m:Option Mp)(os:List FleetMath.Ord)(k:Nat):Prop:=(∀ o∈os.take k,ordE m o=0)∧Dist (os.take k)
theorem KnownTo.next{m:Option Mp}{os:List FleetMath.Ord}{k:Nat}{o:FleetMath.Ord}(h:KnownTo m os k)(ho:os[k]?=some o)(h0:ordE m o=0)(hd:∀j p,j<k→os[j]?=some p→p.id≠o.id):KnownTo m os (k+1):=by
 unfold KnownTo;rw[List.take_add_one,ho];refine⟨fun x hx=>?_,?_⟩
 ·rcases List.mem_append.1 hx with hx|hx
  ·exact h.1 x hx
  ·simp at hx;rw[hx];exact h0
 ·refine List.pairwise_append.2 ⟨h.2,by simp,fun x hx y hy=>?_⟩
  simp at hy;subst hy;obtain⟨j,hj⟩:=List.getElem?_of_mem hx;rw[List.getElem?_take]at hj;split at hj
  ·rename_i hlt;exact hd j x hlt hj
  ·cases hj
theorem KnownTo.all{m:Option Mp}{os:List FleetMath.Ord}(h:KnownTo m os os.length)(hl:os.length≤40):a_V m os=true:=by
 unfold KnownTo at h;rw[List.take_length]at h;exact known_iff.2 ⟨hl,h.1,h.2⟩
theorem k_B{m:Option Mp}{os:List FleetMath.Ord}{k:Nat}{o:FleetMath.Ord}(ho:os[k]?=some o)(h0:ordE m o≠0):a_V m os=false:=by
 cases h:a_V m os
 ·rfl
 ·exact absurd ((known_iff.1 h).2.1 o (List.mem_of_getElem? ho)) h0
theorem k_C{m:Option Mp}{os:List FleetMath.Ord}{j k:Nat}{o p:FleetMath.Ord}(hjk:j<k)(hp:os[j]?=some p)(ho:os[k]?=some o)(he:p.id=o.id):a_V m os=false:=by
 cases h:a_V m os
 ·rfl
 ·have hd:=(known_iff.1 h).2.2
  have hlj:=(List.getElem?_eq_some_iff.1 hp).1;have hlk:=(List.getElem?_eq_some_iff.1 ho).1;have:=List.pairwise_iff_getElem.1 hd j k hlj hlk hjk;rw[(List.getElem?_eq_some_iff.1 hp).2,(List.getElem?_eq_some_iff.1 ho).2]at this;exact absurd he this
end Deal
end Go.Proofs.YtkpnmpjnpcjohaaGreat
