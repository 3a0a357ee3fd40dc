/- The program's contracts on wagers (the seat whose rows are cards). No condition but theirs. -/
import Derived.Test.YtfdlfgokoponmaaDoorZpd
